package wallet

import (
	"math"
	"slices"

	"scantling/api"
	"scantling/header"
	"scantling/json"
	"scantling/octet"
	"scantling/status"
	"scantling/tx"
)

// The methods of which there are notes.
const (
	tipNote    = "blockchain.headers.subscribe"
	scriptNote = "blockchain.scripthash.subscribe"
)

// take takes what was got on a link; false, if it may not be.
func (l *line) take(g api.Got) bool {
	if g.Kind != api.MsgNote {
		take := l.takers[g.Tag]
		delete(l.takers, g.Tag)
		return take != nil && take(g)
	}
	switch {
	case g.Method == tipNote && len(g.Params) == 1:
		return l.takeTip(g.Params[0])
	case g.Method == scriptNote && len(g.Params) == 2:
		i, is := l.w.numbers[g.Params[0].Text]
		return is && g.Params[0].Kind == api.Text && l.scripts[i].told && about{l, i}.takeStatus(g.Params[1])
	}
	return false
}

// parts are what an object of just these names tells of them.
func parts(v api.Value, names ...string) ([]api.Value, bool) {
	if v.Kind != api.Object || len(v.Names) != len(names) {
		return nil, false
	}
	var l []api.Value
	for _, name := range names {
		kid, is := json.Field(v, name)
		if !is {
			return nil, false
		}
		l = append(l, kid)
	}
	return l, true
}

// within says whether a value is a Number from 0 to most.
func within(v api.Value, most int64) bool {
	return v.Kind == api.Number && v.Num >= 0 && v.Num <= most
}

// bytesOf are those that a Text tells.
func bytesOf(v api.Value) ([]byte, bool) {
	if v.Kind != api.Text {
		return nil, false
	}
	b, e := octet.Unhex(v.Text)
	return b, e == api.OK
}

// hashOf is that which a Text tells.
func hashOf(v api.Value) (api.Hash, bool) {
	if v.Kind != api.Text {
		return api.Hash{}, false
	}
	h, e := octet.Unturned(v.Text)
	return h, e == api.OK
}

// tipAnswer takes an answer that is a tip. (P26.4)
func (l *line) tipAnswer(g api.Got) bool {
	return g.Kind == api.MsgAnswer && l.takeTip(g.Result)
}

func (l *line) takeTip(v api.Value) bool {
	of, is := parts(v, "height", "hex")
	if !is || !within(of[0], math.MaxInt32) {
		return false
	}
	b, is := bytesOf(of[1])
	h, e := header.Get(b)
	if !is || e != api.OK {
		return false
	}
	l.tip = int(of[0].Num)
	for i := range l.scripts {
		l.scripts[i].jobs, l.scripts[i].asked = nil, false
	}
	switch l.w.header(h) {
	case api.OK:
	case api.ErrPrev:
		if l.chunk {
			l.missed = true
		} else {
			l.askChunk()
		}
	default:
		return false
	}
	return true
}

// chunkFrom is an ask for headers from a height on.
type chunkFrom struct {
	l    *line
	from int
}

// answer takes a chunk. (P26.5)
func (c chunkFrom) answer(g api.Got) bool {
	l := c.l
	l.chunk = false
	chunk, is := chunkOf(g)
	if !is {
		return false
	}
	for i, h := range chunk {
		e := l.w.header(h)
		switch {
		case e == api.OK:
		case e == api.ErrPrev && i == 0 && c.from > 1:
			l.back = min(2*l.back, mostBack)
			l.askChunk()
			return true
		default:
			return false
		}
	}
	if len(chunk) > 0 {
		l.back = 1
		if next := c.from + len(chunk); next <= l.tip {
			l.askFrom(next)
		}
	}
	if !l.chunk && l.missed {
		l.askChunk()
	}
	return true
}

// chunkOf are the headers that an answer tells.
func chunkOf(g api.Got) ([]api.Header, bool) {
	l, is := parts(g.Result, "count", "hex", "max")
	if g.Kind != api.MsgAnswer || !is || !within(l[0], api.MaxChunk) {
		return nil, false
	}
	b, is := bytesOf(l[1])
	chunk, e := header.Cut(b)
	return chunk, is && e == api.OK && int64(len(chunk)) == l[0].Num
}

// about is an ask about a script.
type about struct {
	l *line
	i int
}

// statusAnswer takes an answer that is a status. (P26.6)
func (a about) statusAnswer(g api.Got) bool {
	return g.Kind == api.MsgAnswer && a.takeStatus(g.Result)
}

func (a about) takeStatus(v api.Value) bool {
	if v.Kind != api.Text && v.Kind != api.Null {
		return false
	}
	a.l.scripts[a.i] = script{told: true, status: v.Text}
	return true
}

// historyAnswer takes a history. (P26.7)
func (a about) historyAnswer(g api.Got) bool {
	l, s := a.l, &a.l.scripts[a.i]
	entries, is := entriesOf(g)
	if !is || !status.Right(entries) || status.Of(entries) != s.status {
		return false
	}
	s.jobs = nil
	l.w.look()
	own := l.w.watched[a.i]
	for _, x := range entries {
		if slices.Contains(own.history, x) {
			continue
		}
		s.jobs = append(s.jobs, &job{height: x.Height, id: x.Tx})
		to := proofOf{a, x}
		l.put("blockchain.transaction.get", to.bytesAnswer, ofHash(x.Tx))
		l.put("blockchain.transaction.get_merkle", to.branchAnswer, ofHash(x.Tx), ofNumber(x.Height))
	}
	return true
}

// entriesOf are the entries that an answer tells.
func entriesOf(g api.Got) ([]api.Entry, bool) {
	if g.Kind != api.MsgAnswer || g.Result.Kind != api.List {
		return nil, false
	}
	var entries []api.Entry
	for _, v := range g.Result.Kids {
		l, is := parts(v, "height", "tx_hash")
		if !is || l[0].Kind != api.Number {
			return nil, false
		}
		id, is := hashOf(l[1])
		if !is {
			return nil, false
		}
		entries = append(entries, api.Entry{Height: int(l[0].Num), Tx: id})
	}
	return entries, true
}

// proofOf is an ask for what proves an entry of a script's history.
type proofOf struct {
	about
	entry api.Entry
}

// job is the one that this is asked for, or nil.
func (p proofOf) job() *job { return p.l.find(p.i, p.entry.Height, p.entry.Tx) }

// refused lets the job go.
func (p proofOf) refused() bool {
	if j := p.job(); j != nil {
		p.l.letGo(p.i, j)
	}
	return true
}

// bytesAnswer takes a transaction's bytes. (P26.7)
func (p proofOf) bytesAnswer(g api.Got) bool {
	if g.Kind == api.MsgRefuse {
		return p.refused()
	}
	raw, is := bytesOf(g.Result)
	t, e := tx.Get(raw)
	if !is || e != api.OK || tx.Id(t) != p.entry.Tx {
		return false
	}
	if j := p.job(); j != nil {
		j.raw, j.hasRaw = raw, true
		p.l.try(p.i, j)
	}
	return true
}

// branchAnswer takes a branch and a place. (P26.7)
func (p proofOf) branchAnswer(g api.Got) bool {
	if g.Kind == api.MsgRefuse {
		return p.refused()
	}
	l, is := parts(g.Result, "block_height", "merkle", "pos")
	if !is || l[0].Kind != api.Number || l[0].Num != int64(p.entry.Height) || !within(l[2], math.MaxUint32) {
		return false
	}
	if l[1].Kind != api.List || len(l[1].Kids) > api.MaxBranch {
		return false
	}
	var branch []api.Hash
	for _, v := range l[1].Kids {
		h, is := hashOf(v)
		if !is {
			return false
		}
		branch = append(branch, h)
	}
	if j := p.job(); j != nil {
		j.branch, j.at, j.hasBranch = branch, int(l[2].Num), true
		p.l.try(p.i, j)
	}
	return true
}
