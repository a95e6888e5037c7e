package wallet

import (
	"slices"

	"scantling/api"
	"scantling/link"
	"scantling/octet"
)

// mostBack is how far a chunk is asked from below what is known, at most.
const mostBack = 1 << 20

// line is an open link.
type line struct {
	w       *Wallet
	k       int
	link    *link.Link
	queue   []ask
	takers  map[int]func(api.Got) bool // of the asks that wait, by their tags
	tag     int                        // the next one
	tip     int                        // its server's height
	back    int
	chunk   bool // is one under way?
	missed  bool // was a tip meanwhile?
	scripts []script
}

// ask is what a server is to be asked, and what takes its answer; that says whether it may be.
type ask struct {
	method string
	params []api.Value
	take   func(api.Got) bool
}

// script is what a link knows of a watched script.
type script struct {
	told   bool // a status
	status string
	asked  bool // for a history: for which status, and which best header
	forOne string
	best   api.Hash
	jobs   []*job // as they came up
}

// job is an entry that is to be proven.
type job struct {
	height    int
	id        api.Hash
	raw       []byte
	branch    []api.Hash
	at        int
	hasRaw    bool
	hasBranch bool
}

func newLine(w *Wallet, k int) *line {
	return &line{w: w, k: k, link: link.New(), takers: map[int]func(api.Got) bool{}, back: 1}
}

// put puts an ask behind the queue.
func (l *line) put(method string, take func(api.Got) bool, params ...api.Value) {
	l.queue = append(l.queue, ask{method, params, take})
}

func ofText(s string) api.Value { return api.Value{Kind: api.Text, Text: s} }

func ofNumber(n int) api.Value { return api.Value{Kind: api.Number, Num: int64(n)} }

func ofHash(h api.Hash) api.Value { return ofText(octet.Turned(h)) }

// subscribe asks for the status of a script that is watched from now on.
func (l *line) subscribe(i int) {
	l.scripts = append(l.scripts, script{})
	l.put(scriptNote, about{l, i}.statusAnswer, ofHash(l.w.watched[i].hash))
}

// askChunk asks for headers from where they should follow what is known.
func (l *line) askChunk() {
	_, best := l.w.book.Best()
	l.missed = false
	l.askFrom(max(1, min(best, l.tip)+1-l.back))
}

// askFrom asks for headers from a height on.
func (l *line) askFrom(from int) {
	l.chunk = true
	l.put("blockchain.block.headers", chunkFrom{l, from}.answer, ofNumber(from), ofNumber(api.MaxChunk))
}

// askHistories asks for those of all scripts whose status is not their own.
func (l *line) askHistories() {
	best, _ := l.w.book.Best()
	for i := range l.scripts {
		s := &l.scripts[i]
		if !s.told || s.status == l.w.watched[i].status || len(s.jobs) > 0 {
			continue
		}
		if s.asked && s.forOne == s.status && s.best == best {
			continue
		}
		s.asked, s.forOne, s.best = true, s.status, best
		l.put("blockchain.scripthash.get_history", about{l, i}.historyAnswer, ofHash(l.w.watched[i].hash))
	}
}

// send asks what is in the queue, as long as there is room for answers.
func (l *line) send() {
	for len(l.queue) > 0 && l.link.Waiting() < api.MaxAsks {
		next := l.queue[0]
		l.queue = l.queue[1:]
		b, e := l.link.Ask(next.method, next.params, l.tag)
		if e != api.OK {
			continue
		}
		l.takers[l.tag] = next.take
		l.tag++
		l.w.out.Sent = append(l.w.out.Sent, api.Sent{K: l.k, B: b})
	}
}

// find is the job of a script, of a height and an id; nil, if there is none any more.
func (l *line) find(i, height int, id api.Hash) *job {
	for _, j := range l.scripts[i].jobs {
		if j.height == height && j.id == id {
			return j
		}
	}
	return nil
}

// letGo lets a job of a script go.
func (l *line) letGo(i int, j *job) {
	s := &l.scripts[i]
	s.jobs = slices.DeleteFunc(s.jobs, func(x *job) bool { return x == j })
}

// try proves what a job has, if it has both.
func (l *line) try(i int, j *job) api.Errno {
	if !j.hasRaw || !j.hasBranch {
		return api.OK
	}
	e := l.w.prove(j)
	if e == api.OK || e == api.ErrMany {
		l.letGo(i, j)
	}
	return e
}

// proveAgain tries all jobs that have both, now that the best header is another one.
func (l *line) proveAgain() {
	for i := range l.scripts {
		for _, j := range slices.Clone(l.scripts[i].jobs) {
			if l.try(i, j) == api.ErrProof {
				l.letGo(i, j)
			}
		}
	}
}
