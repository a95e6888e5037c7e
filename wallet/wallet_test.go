package wallet

import (
	"bytes"
	"math"
	"math/rand"
	"reflect"
	"slices"
	"strconv"
	"strings"
	"testing"

	"scantling/api"
	"scantling/gap"
	"scantling/header"
	"scantling/ledger"
	"scantling/merkle"
	"scantling/octet"
	"scantling/proof"
	"scantling/rpc"
	"scantling/server"
	"scantling/status"
	"scantling/testchain"
	"scantling/tx"
	"scantling/views"
)

var at, out, mint, spend = testchain.At, testchain.Out, testchain.Mint, testchain.Spend

var seed = []byte("seed")

func made(t *testing.T, n int) *Wallet {
	t.Helper()
	w, e := New(testchain.Easy(), 20, seed, n)
	if e != api.OK {
		t.Fatal(e)
	}
	return w
}

// desk is a link's other end, played by hand.
type desk struct {
	t    *testing.T
	w    *Wallet
	k    int
	asks []api.Message // that are not answered
	recs [][]byte
	last api.Told
}

func opened(t *testing.T, w *Wallet, k int) *desk {
	t.Helper()
	d := &desk{t: t, w: w, k: k}
	told, e := w.Open(k)
	if e != api.OK {
		t.Fatal("Open", e)
	}
	d.took(told)
	return d
}

// took keeps what was sent to this link.
func (d *desk) took(told api.Told) {
	d.last = told
	d.recs = append(d.recs, told.Recs...)
	for _, s := range told.Sent {
		if s.K != d.k {
			continue
		}
		m, e := rpc.Read(s.B[:len(s.B)-1])
		if e != api.OK || m.Kind != api.MsgAsk || s.B[len(s.B)-1] != 10 {
			d.t.Fatal("sent", string(s.B))
		}
		d.asks = append(d.asks, m)
	}
}

// says feeds a line.
func (d *desk) says(line string, want api.Errno) {
	d.t.Helper()
	told, e := d.w.Feed(d.k, []byte(line+"\n"))
	if e != want {
		d.t.Errorf("Feed of %.150s: %v, not %v", line, e, want)
	}
	d.took(told)
}

// find is the first ask of a method that is not answered.
func (d *desk) find(method string) int {
	return slices.IndexFunc(d.asks, func(m api.Message) bool { return m.Method == method })
}

// answers answers the first ask of a method.
func (d *desk) answers(method, result string, want api.Errno) {
	d.t.Helper()
	d.replies(method, `"result":`+result, want)
}

// refuses refuses it.
func (d *desk) refuses(method string, want api.Errno) {
	d.t.Helper()
	d.replies(method, `"error":{"code":1,"message":""}`, want)
}

func (d *desk) replies(method, what string, want api.Errno) {
	d.t.Helper()
	i := d.find(method)
	if i < 0 {
		d.t.Fatal("not asked", method)
	}
	id := d.asks[i].Id
	d.asks = slices.Delete(d.asks, i, i+1)
	d.says(`{"id":`+strconv.FormatInt(id, 10)+`,`+what+`}`, want)
}

// waits says of which methods asks wait, in order.
func (d *desk) waits(want ...string) {
	d.t.Helper()
	var l []string
	for _, m := range d.asks {
		l = append(l, m.Method)
	}
	if !slices.Equal(l, want) {
		d.t.Errorf("asks: %v, not %v", l, want)
	}
}

const (
	headersSub = "blockchain.headers.subscribe"
	scriptSub  = "blockchain.scripthash.subscribe"
	getHistory = "blockchain.scripthash.get_history"
	getTx      = "blockchain.transaction.get"
	getBranch  = "blockchain.transaction.get_merkle"
	getChunk   = "blockchain.block.headers"
)

func tip(c *testchain.Chain, n int) string {
	return `{"height":` + strconv.Itoa(n) + `,"hex":"` + octet.Hex(header.Put(c.Blocks[n].Header)) + `"}`
}

func chunk(c *testchain.Chain, from, count int) string {
	return `{"count":` + strconv.Itoa(count) + `,"hex":"` + octet.Hex(header.Row(c.Headers()[from:from+count]...)) + `","max":100}`
}

func history(l ...api.Entry) string {
	var parts []string
	for _, x := range l {
		parts = append(parts, `{"tx_hash":"`+octet.Turned(x.Tx)+`","height":`+strconv.Itoa(x.Height)+`}`)
	}
	return "[" + strings.Join(parts, ",") + "]"
}

func branchOf(b api.Block, height, k int) string {
	var ids []api.Hash
	for _, t := range b.Txs {
		ids = append(ids, tx.Id(t))
	}
	branch, _ := merkle.Branch(ids, k)
	var parts []string
	for _, h := range branch {
		parts = append(parts, `"`+octet.Turned(h)+`"`)
	}
	return `{"block_height":` + strconv.Itoa(height) + `,"merkle":[` + strings.Join(parts, ",") + `],"pos":` + strconv.Itoa(k) + `}`
}

func quoted(s string) string { return `"` + s + `"` }

func rawOf(t api.Tx) string { return quoted(octet.Hex(tx.Put(t))) }

func hashText(i int) string { return quoted(octet.Turned(gap.Hash(seed, i))) }

// TestNew: P26.1 and P26.9.
func TestNew(t *testing.T) {
	p := testchain.Easy()
	for i, c := range []struct {
		p    api.Params
		room int
		seed int
		gap  int
		e    api.Errno
	}{{p, 1, 0, 1, api.OK}, {p, 1, 200, 50, api.OK}, {p, 1, 201, 1, api.ErrArg}, {p, 1, 0, 0, api.ErrArg}, {p, 1, 0, 51, api.ErrArg}, {p, 1, 0, -1, api.ErrArg}, {p, 0, 0, 1, api.ErrArg}, {api.Params{}, 1, 0, 1, api.ErrArg}, {p, 1, 0, math.MaxInt, api.ErrArg}} {
		w, e := New(c.p, c.room, make([]byte, c.seed), c.gap)
		if e != c.e || (w != nil) != (e == api.OK) {
			t.Error("New", i, e)
		}
		if w != nil && (w.Watched() != c.gap || w.Balance() != 0 || len(w.Shown()) != 0 || len(w.Records()) != 0) {
			t.Error("a new one", i)
		}
	}
	w := made(t, 2)
	if id, n := w.Best(); id != header.Id(p.First) || n != 0 {
		t.Error("Best")
	}
	for _, i := range []int{-1, 2, math.MaxInt} {
		if w.History(i) != nil || w.Unspents(i) != nil {
			t.Error("of another number", i)
		}
	}
	own := bytes.Clone(seed)
	v, _ := New(p, 1, own, 1)
	clear(own)
	d := opened(t, v, 0)
	if d.asks[1].Params.Kids[0].Text != octet.Turned(gap.Hash(seed, 0)) {
		t.Error("the seed is kept")
	}
}

// TestNone: no wallet.
func TestNone(t *testing.T) {
	var w *Wallet
	o1, e1 := w.Open(9)
	o2, e2 := w.Feed(9, nil)
	id, n := w.Best()
	a, q := w.Waiting(0)
	if e1 != api.ErrNil || e2 != api.ErrNil || w.Load(nil) != api.ErrNil || w.Close(9) != api.ErrNil || w.Faulty(0) || id != (api.Hash{}) || n != 0 || a != 0 || q != 0 || w.Shown() != nil || w.Records() != nil || w.Watched() != 0 || w.History(0) != nil || w.Unspents(0) != nil || w.Balance() != 0 || !reflect.DeepEqual(o1, api.Told{}) || !reflect.DeepEqual(o2, api.Told{}) {
		t.Error("no wallet")
	}
}

// TestOpen: P26.2.
func TestOpen(t *testing.T) {
	w := made(t, 2)
	for _, k := range []int{-1, 8, math.MaxInt} {
		_, e := w.Open(k)
		_, e2 := w.Feed(k, nil)
		if e != api.ErrArg || e2 != api.ErrArg || w.Close(k) != api.ErrArg || w.Faulty(k) {
			t.Error("no such link", k)
		}
	}
	if _, e := w.Feed(0, nil); e != api.ErrState || w.Close(0) != api.ErrState {
		t.Error("not open")
	}
	told, e := w.Open(0)
	want := []string{
		`{"jsonrpc":"2.0","id":0,"method":"blockchain.headers.subscribe","params":[]}`,
		`{"jsonrpc":"2.0","id":1,"method":"blockchain.scripthash.subscribe","params":[` + hashText(0) + `]}`,
		`{"jsonrpc":"2.0","id":2,"method":"blockchain.scripthash.subscribe","params":[` + hashText(1) + `]}`,
	}
	if e != api.OK || len(told.Sent) != 3 || told.Recs != nil {
		t.Fatal("Open", e)
	}
	for i, s := range told.Sent {
		if s.K != 0 || string(s.B) != want[i]+"\n" {
			t.Errorf("sent %s", s.B)
		}
	}
	if a, q := w.Waiting(0); a != 3 || q != 0 {
		t.Error("Waiting", a, q)
	}
	if _, e := w.Open(0); e != api.ErrState {
		t.Error("open already")
	}
	if w.Load(nil) != api.ErrState {
		t.Error("Load")
	}
	if w.Close(0) != api.OK || w.Faulty(0) {
		t.Error("Close")
	}
	if a, q := w.Waiting(0); a != 0 || q != 0 {
		t.Error("Waiting of a closed one")
	}
	d := opened(t, w, 0)
	if len(d.asks) != 3 || d.asks[0].Id != 0 || w.Load(nil) != api.ErrState {
		t.Error("anew")
	}
	d.answers(headersSub, `[]`, api.ErrFault)
	if !w.Faulty(0) {
		t.Error("Faulty")
	}
	if _, e := w.Open(0); e != api.ErrState || w.Close(0) != api.ErrState {
		t.Error("faulty for ever")
	}
	if _, e := w.Feed(0, nil); e != api.ErrState {
		t.Error("Feed of a faulty one")
	}
	// 50 scripts: no more than MaxAsks wait.
	w = made(t, 50)
	d = opened(t, w, 7)
	if a, q := w.Waiting(7); a != 32 || q != 19 || len(d.asks) != 32 {
		t.Error("MaxAsks", a, q)
	}
	d.answers(scriptSub, "null", api.OK)
	if a, q := w.Waiting(7); a != 32 || q != 18 || len(d.last.Sent) != 1 {
		t.Error("one more", a, q)
	}
}

// TestFaults: what makes a link faulty, and that it turns nothing else.
func TestFaults(t *testing.T) {
	c := testchain.New(testchain.Easy())
	m := mint(1, out(50, gap.Script(seed, 0)))
	c.Grow(m)
	lazy := testchain.New(c.P).Next(mint(2)).Header
	for made(t, 2).header(lazy) != api.ErrWork {
		lazy.Nonce++
	}
	hex := octet.Hex(header.Put(c.Blocks[1].Header))
	entry := api.Entry{Height: 1, Tx: tx.Id(m)}
	word := quoted(status.Of([]api.Entry{entry}))
	other := mint(9, out(1, nil))
	// ready is a link on which a script's bytes and branch are asked for.
	ready := func(d *desk) {
		d.answers(headersSub, tip(c, 1), api.OK)
		d.answers(scriptSub, word, api.OK)
		d.answers(scriptSub, "null", api.OK)
		d.answers(getHistory, history(entry), api.OK)
		d.waits(getTx, getBranch)
	}
	asked := func(d *desk) {
		d.answers(headersSub, tip(c, 1), api.OK)
		d.answers(scriptSub, word, api.OK)
	}
	far := testchain.New(c.P)
	for range 3 {
		far.Grow(mint(7))
	}
	type step func(*desk)
	chunked := func(d *desk) { d.answers(headersSub, tip(far, 3), api.OK) }
	// behind is a link on which a chunk from 2 on is asked for: c's first block is known, another one's third is the tip.
	behind := func(d *desk) {
		d.answers(headersSub, tip(c, 1), api.OK)
		d.says(`{"method":"`+headersSub+`","params":[`+tip(far, 3)+`]}`, api.OK)
		i := d.find(getChunk)
		if i < 0 || d.asks[i].Params.Kids[0].Num != 1 {
			d.t.Fatal("not from 1")
		}
		d.answers(getChunk, chunk(far, 1, 2), api.OK)
		i = d.find(getChunk)
		if i < 0 || d.asks[i].Params.Kids[0].Num != 3 {
			d.t.Fatal("not from 3")
		}
	}
	// emptied is a link on which a history is asked for, and the status is none by then.
	emptied := func(d *desk) {
		d.answers(headersSub, tip(c, 1), api.OK)
		d.answers(scriptSub, word, api.OK)
		d.says(`{"method":"`+scriptSub+`","params":[`+hashText(0)+`,null]}`, api.OK)
	}
	// worded is a link on which a script has the status of just these entries.
	worded := func(l ...api.Entry) step {
		return func(d *desk) {
			d.answers(headersSub, tip(c, 1), api.OK)
			d.answers(scriptSub, quoted(status.Of(l)), api.OK)
			d.answers(getHistory, history(l...), api.ErrFault)
		}
	}
	says := func(line string) step { return func(d *desk) { d.says(line, api.ErrFault) } }
	answers := func(method, result string) step {
		return func(d *desk) { d.answers(method, result, api.ErrFault) }
	}
	refuses := func(method string) step { return func(d *desk) { d.refuses(method, api.ErrFault) } }
	note := func(method, params string) step {
		return says(`{"method":"` + method + `","params":[` + params + `]}`)
	}
	for i, k := range []struct {
		first step
		then  step
	}{
		{nil, says("x")}, {nil, says("")}, {nil, says(`{"id":99,"result":1}`)}, {nil, says(`{"id":0,"method":"server.ping"}`)}, {nil, note("server.ping", "")}, {nil, note("blockchain.block.header", "1")}, {nil, refuses(headersSub)}, {nil, refuses(scriptSub)},
		{nil, answers(headersSub, "null")}, {nil, answers(headersSub, `{"height":1}`)}, {nil, answers(headersSub, `{"height":1,"hex":"`+hex+`","x":1}`)}, {nil, answers(headersSub, `{"height":-1,"hex":"`+hex+`"}`)}, {nil, answers(headersSub, `{"height":2147483648,"hex":"`+hex+`"}`)},
		{nil, answers(headersSub, `{"height":"1","hex":"`+hex+`"}`)}, {nil, answers(headersSub, `{"height":1,"hex":"`+hex[2:]+`"}`)}, {nil, answers(headersSub, `{"height":1,"hex":"`+hex+`00"}`)}, {nil, answers(headersSub, `{"height":1,"hex":"`+strings.ToUpper(hex)+`"}`)}, {nil, answers(headersSub, `{"height":1,"hex":1}`)}, {nil, answers(headersSub, `{"height":1,"hey":"`+hex+`"}`)},
		{nil, answers(headersSub, `{"height":1,"hex":"`+octet.Hex(header.Put(lazy))+`"}`)}, {nil, note(headersSub, "")}, {nil, note(headersSub, tip(c, 1)+","+tip(c, 1))}, {nil, note(headersSub, "[]")}, {asked, note(headersSub, `{"height":2,"hex":"`+octet.Hex(header.Put(lazy))+`"}`)},
		{nil, answers(scriptSub, "1")}, {nil, answers(scriptSub, "[]")}, {nil, answers(scriptSub, "false")}, {nil, note(scriptSub, hashText(0)+",null")}, {asked, note(scriptSub, hashText(1)+",null")}, {asked, note(scriptSub, hashText(0))}, {asked, note(scriptSub, hashText(0)+",null,null")}, {asked, note(scriptSub, hashText(0)+",1")}, {asked, note(scriptSub, hashText(2)+",null")}, {asked, note(scriptSub, `"x",null`)}, {asked, note(scriptSub, `null,null`)}, {asked, note(scriptSub, "")}, {asked, note(getHistory, hashText(0)+",null")},
		{asked, refuses(getHistory)}, {asked, answers(getHistory, "null")}, {asked, answers(getHistory, "[]")}, {asked, answers(getHistory, history(entry, entry))}, {asked, answers(getHistory, history(api.Entry{Height: 2, Tx: entry.Tx}))}, {asked, answers(getHistory, strings.Replace(history(entry), "}", `,"fee":1}`, 1))}, {asked, answers(getHistory, `[{"height":1}]`)}, {asked, answers(getHistory, `[{"height":"1","tx_hash":`+quoted(octet.Turned(entry.Tx))+`}]`)}, {asked, answers(getHistory, `[{"height":1,"tx_hash":"00"}]`)}, {asked, answers(getHistory, `[1]`)}, {asked, answers(getHistory, history(api.Entry{Height: 0, Tx: entry.Tx}))},
		{ready, answers(getTx, "null")}, {ready, answers(getTx, `"00"`)}, {ready, answers(getTx, `"0"`)}, {ready, answers(getTx, rawOf(other))}, {ready, answers(getTx, "{}")}, {ready, answers(getTx, strings.ToUpper(rawOf(m)))},
		{ready, answers(getBranch, "null")}, {ready, answers(getBranch, `{"block_height":2,"merkle":[],"pos":0}`)}, {ready, answers(getBranch, `{"block_height":1,"merkle":[],"pos":-1}`)}, {ready, answers(getBranch, `{"block_height":1,"merkle":[],"pos":4294967296}`)}, {ready, answers(getBranch, `{"block_height":1,"merkle":[],"pos":"0"}`)}, {ready, answers(getBranch, `{"block_height":1,"merkle":["00"],"pos":0}`)}, {ready, answers(getBranch, `{"block_height":1,"merkle":[1],"pos":0}`)}, {ready, answers(getBranch, `{"block_height":1,"merkle":null,"pos":0}`)}, {ready, answers(getBranch, `{"block_height":1,"merkle":[]}`)}, {ready, answers(getBranch, `{"block_height":1,"merkle":[],"pos":0,"x":0}`)}, {ready, answers(getBranch, `{"block_height":"1","merkle":[],"pos":0}`)},
		{ready, answers(getBranch, `{"block_height":1,"merkle":[`+strings.Repeat(quoted(octet.Turned(api.Hash{}))+",", 32)+quoted(octet.Turned(api.Hash{}))+`],"pos":0}`)},
		{chunked, refuses(getChunk)}, {chunked, answers(getChunk, "null")}, {chunked, answers(getChunk, `{"count":1,"hex":"`+hex+`"}`)}, {chunked, answers(getChunk, `{"count":2,"hex":"`+hex+`","max":1}`)}, {chunked, answers(getChunk, `{"count":0,"hex":"`+hex+`","max":1}`)}, {chunked, answers(getChunk, `{"count":-1,"hex":"","max":1}`)}, {chunked, answers(getChunk, `{"count":101,"hex":"`+strings.Repeat(hex, 101)+`","max":1}`)}, {chunked, answers(getChunk, `{"count":1,"hex":"`+hex[2:]+`","max":1}`)}, {chunked, answers(getChunk, `{"count":1,"hex":1,"max":1}`)}, {chunked, answers(getChunk, `{"count":"1","hex":"`+hex+`","max":1}`)},
		{chunked, answers(getChunk, `{"count":0,"hex":"00","max":1}`)}, {chunked, answers(getChunk, `{"count":0,"hex":1,"max":1}`)}, {chunked, answers(getChunk, `{"count":0,"hex":"0","max":1}`)},
		{behind, answers(getChunk, `{"count":2,"hex":"`+octet.Hex(header.Put(far.Blocks[3].Header))+octet.Hex(header.Put(api.Header{}))+`","max":1}`)}, {behind, answers(getChunk, `{"count":1,"hex":"`+octet.Hex(header.Put(lazy))+`","max":1}`)},
		{emptied, answers(getHistory, "null")}, {emptied, answers(getHistory, "[1]")}, {emptied, answers(getHistory, `[{"height":"1","tx_hash":"00"}]`)}, {emptied, answers(getHistory, `[{"height":1,"tx_hash":"00"}]`)}, {emptied, refuses(getHistory)}, {emptied, answers(getHistory, history(entry))},
		{nil, worded(entry, entry)}, {nil, worded(api.Entry{Tx: entry.Tx})}, {nil, worded(api.Entry{Height: -1, Tx: entry.Tx})}, {nil, worded(api.Entry{Height: 2, Tx: entry.Tx}, api.Entry{Height: 1})}, {asked, answers(getHistory, `{"a":`+strings.Trim(history(entry), "[]")+`}`)},
		{chunked, answers(getChunk, chunk(far, 2, 1))}, {chunked, answers(getChunk, `{"count":2,"hex":"`+hex+octet.Hex(header.Put(far.Blocks[3].Header))+`","max":1}`)}, {chunked, answers(getChunk, `{"count":2,"hex":"`+hex+octet.Hex(header.Put(lazy))+`","max":1}`)},
	} {
		w := made(t, 2)
		good := opened(t, w, 3)
		d := opened(t, w, 0)
		if k.first != nil {
			k.first(d)
		}
		k.then(d)
		if !w.Faulty(0) || w.Faulty(3) {
			t.Error("Faulty", i)
		}
		if a, q := w.Waiting(0); a != 0 || q != 0 {
			t.Error("Waiting", i)
		}
		good.answers(headersSub, tip(c, 1), api.OK)
		good.answers(scriptSub, word, api.OK)
		good.answers(scriptSub, "null", api.OK)
		if _, n := w.Best(); n > 1 {
			continue // what was right ahead of the fault is held: another chain is the best one
		}
		good.answers(getHistory, history(entry), api.OK)
		good.answers(getTx, rawOf(m), api.OK)
		good.answers(getBranch, branchOf(c.Blocks[1], 1, 0), api.OK)
		if w.Balance() != 50 || len(w.History(0)) != 1 {
			t.Error("the other link", i)
		}
	}
}

// TestProve: P26.6 and P26.7, from a status to coins.
func TestProve(t *testing.T) {
	c := testchain.New(testchain.Easy())
	m := mint(1, out(50, gap.Script(seed, 1)))
	x := spend([]api.Out{out(30, gap.Script(seed, 1)), out(20, []byte("u"))}, at(m, 0))
	c.Grow(m)
	c.Grow(x)
	one, two := api.Entry{Height: 1, Tx: tx.Id(m)}, api.Entry{Height: 2, Tx: tx.Id(x)}
	w := made(t, 2)
	d := opened(t, w, 0)
	d.answers(headersSub, tip(c, 2), api.OK)
	d.waits(scriptSub, scriptSub, getChunk)
	d.answers(scriptSub, "null", api.OK)
	d.answers(scriptSub, quoted(status.Of([]api.Entry{one, two})), api.OK)
	d.waits(getChunk, getHistory)
	if l := d.asks[1].Params.Kids; len(l) != 1 || l[0].Text != octet.Turned(gap.Hash(seed, 1)) {
		t.Error("of which script")
	}
	if l := d.asks[0].Params.Kids; len(l) != 2 || l[0].Num != 1 || l[1].Num != api.MaxChunk {
		t.Error("of which headers", l)
	}
	d.answers(getHistory, history(one, two), api.OK)
	d.waits(getChunk, getTx, getBranch, getTx, getBranch)
	if l := d.asks[2].Params.Kids; len(l) != 2 || l[0].Text != octet.Turned(one.Tx) || l[1].Num != 1 {
		t.Error("of which transaction", l)
	}
	d.answers(getTx, rawOf(m), api.OK)
	d.answers(getBranch, branchOf(c.Blocks[1], 1, 0), api.OK)
	if len(w.Shown()) != 0 || len(d.recs) != 0 {
		t.Error("shown without a header")
	}
	// The headers come: what was there is proven, and the history is asked for again only once the jobs are done.
	d.answers(getChunk, chunk(c, 1, 2), api.OK)
	if len(w.Shown()) != 1 || w.Balance() != 50 || len(d.recs) != 3 || w.Watched() != 4 {
		t.Error("proven", len(w.Shown()), w.Balance(), len(d.recs), w.Watched())
	}
	d.waits(getTx, getBranch, scriptSub, scriptSub)
	d.answers(getBranch, branchOf(c.Blocks[2], 2, 1), api.OK)
	d.answers(getTx, rawOf(x), api.OK)
	if w.Balance() != 30 || !slices.Equal(w.History(1), []api.Entry{one, two}) || !slices.Equal(w.Unspents(1), []api.Unspent{{At: at(x, 0), Value: 30, Height: 2}}) || len(w.History(0)) != 0 {
		t.Error("all of it", w.Balance())
	}
	d.waits(scriptSub, scriptSub)
	// The records make the same wallet.
	again := made(t, 2)
	for _, rec := range d.recs {
		if e := again.Load(rec); e != api.OK {
			t.Error("Load", e)
		}
	}
	if again.Watched() != 4 || again.Balance() != 30 || !reflect.DeepEqual(again.Shown(), w.Shown()) || !reflect.DeepEqual(again.Records(), w.Records()) || !reflect.DeepEqual(w.Records(), d.recs) {
		t.Error("Load")
	}
	if e := again.Load([]byte{7}); e != api.ErrBytes {
		t.Error("Load of no record", e)
	}
	// A status that is its own asks for nothing; another one does, and again only for another one, or another best header.
	note := func(s string) string {
		return `{"method":"` + scriptSub + `","params":[` + hashText(1) + `,` + s + `]}`
	}
	d.answers(scriptSub, "null", api.OK)
	d.answers(scriptSub, "null", api.OK)
	d.says(note(quoted(status.Of([]api.Entry{one, two}))), api.OK)
	d.waits()
	d.says(note(`"aa"`), api.OK)
	d.waits(getHistory)
	d.says(note(`"aa"`), api.OK)
	d.waits(getHistory, getHistory)
	d.says(`{"method":"x`, api.ErrFault)
}

// TestJobs: P26.7 and P26.8, 1 and 3: when jobs are let go, and histories asked for again.
func TestJobs(t *testing.T) {
	c := testchain.New(testchain.Easy())
	m := mint(1, out(50, gap.Script(seed, 0)))
	c.Grow(m)
	one := api.Entry{Height: 1, Tx: tx.Id(m)}
	word := quoted(status.Of([]api.Entry{one}))
	start := func() (*Wallet, *desk) {
		w := made(t, 1)
		d := opened(t, w, 0)
		d.answers(headersSub, tip(c, 1), api.OK)
		d.answers(scriptSub, word, api.OK)
		d.answers(getHistory, history(one), api.OK)
		d.waits(getTx, getBranch)
		return w, d
	}
	// A refusal lets a job go: and the history is not asked for again, until the best header is another one.
	w, d := start()
	d.refuses(getTx, api.OK)
	d.waits(getBranch)
	d.answers(getBranch, branchOf(c.Blocks[1], 1, 0), api.OK)
	d.waits()
	c.Grow()
	d.says(`{"method":"`+headersSub+`","params":[`+tip(c, 2)+`]}`, api.OK)
	d.waits(getHistory)
	if len(w.Shown()) != 0 {
		t.Error("shown")
	}
	// The same, where another link brings the other best header: there is no job, so the history is asked for.
	w, d = start()
	d.refuses(getBranch, api.OK)
	d.answers(getTx, rawOf(m), api.OK)
	d.waits()
	o := opened(t, w, 1)
	o.answers(headersSub, tip(c, 2), api.OK)
	d.took(o.last)
	d.waits(getHistory)
	// A branch of as many hashes as may be.
	w, d = start()
	d.answers(getBranch, `{"block_height":1,"merkle":[`+strings.Repeat(quoted(octet.Turned(api.Hash{}))+",", 31)+quoted(octet.Turned(api.Hash{}))+`],"pos":4294967295}`, api.OK)
	// A branch that does not lead to the root: the job stays, until the best header is another one.
	w, d = start()
	d.answers(getTx, rawOf(m), api.OK)
	d.answers(getBranch, `{"block_height":1,"merkle":[`+quoted(octet.Turned(api.Hash{}))+`],"pos":0}`, api.OK)
	d.waits()
	if len(w.lines[0].scripts[0].jobs) != 1 {
		t.Error("the job stays")
	}
	d.says(`{"method":"`+scriptSub+`","params":[`+hashText(0)+`,`+word+`]}`, api.OK)
	d.waits(getHistory)
	d.answers(getHistory, history(one), api.OK)
	d.answers(getTx, rawOf(m), api.OK)
	d.answers(getBranch, `{"block_height":1,"merkle":[`+quoted(octet.Turned(api.Hash{}))+`],"pos":0}`, api.OK)
	// Another link brings another best header: ErrProof lets it go, and the history is asked for again.
	e := opened(t, w, 4)
	e.answers(headersSub, tip(c, 2), api.OK)
	d.took(e.last)
	if len(w.lines[0].scripts[0].jobs) != 0 {
		t.Error("the job is let go")
	}
	d.waits(getHistory)
	d.answers(getHistory, history(one), api.OK)
	d.answers(getBranch, branchOf(c.Blocks[1], 1, 0), api.OK)
	d.answers(getTx, rawOf(m), api.OK)
	if w.Balance() != 50 {
		t.Error("proven at last")
	}
	// A tip lets all jobs of its link go: what answers then says nothing; but it is held to its form.
	w, d = start()
	d.says(`{"method":"`+headersSub+`","params":[`+tip(c, 1)+`]}`, api.OK)
	d.waits(getTx, getBranch, getHistory)
	d.answers(getTx, rawOf(m), api.OK)
	d.answers(getBranch, branchOf(c.Blocks[1], 1, 0), api.OK)
	if w.Balance() != 0 {
		t.Error("no job, no proof")
	}
	d.answers(getHistory, history(one), api.OK)
	d.answers(getTx, `"00"`, api.ErrFault)
	// What was asked for ahead serves a job of the same entry.
	w, d = start()
	d.says(`{"method":"`+headersSub+`","params":[`+tip(c, 1)+`]}`, api.OK)
	d.answers(getHistory, history(one), api.OK)
	d.waits(getTx, getBranch, getTx, getBranch)
	d.answers(getTx, rawOf(m), api.OK)
	d.answers(getBranch, branchOf(c.Blocks[1], 1, 0), api.OK)
	if w.Balance() != 50 {
		t.Error("the same entry")
	}
	d.answers(getTx, rawOf(m), api.OK)
	d.refuses(getBranch, api.OK)
	// One that is proven already is no job.
	d.says(`{"method":"`+headersSub+`","params":[`+tip(c, 2)+`]}`, api.OK)
	two := api.Entry{Height: 2, Tx: api.Hash{5}}
	d.says(`{"method":"`+scriptSub+`","params":[`+hashText(0)+`,`+quoted(status.Of([]api.Entry{one, two}))+`]}`, api.OK)
	i := d.find(getHistory)
	if i < 0 {
		t.Fatal("not asked")
	}
	d.asks = d.asks[i:]
	d.answers(getHistory, history(one, two), api.OK)
	if i := d.find(getTx); i < 0 || d.asks[i].Params.Kids[0].Text != octet.Turned(two.Tx) || len(w.lines[0].scripts[0].jobs) != 1 {
		t.Error("jobs")
	}
}

// TestAtOnce: what comes in one Feed is taken in order: one that was proven just ahead is no job of another script.
func TestAtOnce(t *testing.T) {
	c := testchain.New(testchain.Easy())
	m := mint(1, out(50, gap.Script(seed, 0)), out(5, gap.Script(seed, 1)))
	c.Grow(m)
	one := api.Entry{Height: 1, Tx: tx.Id(m)}
	word := quoted(status.Of([]api.Entry{one}))
	w := made(t, 2)
	d := opened(t, w, 0)
	d.answers(headersSub, tip(c, 1), api.OK)
	d.answers(scriptSub, word, api.OK)
	d.answers(scriptSub, word, api.OK)
	i := d.find(getHistory)
	first, second := d.asks[i].Id, d.asks[i+1].Id
	d.asks = nil
	line := func(id int64, result string) string {
		return `{"id":` + strconv.FormatInt(id, 10) + `,"result":` + result + "}"
	}
	d.says(line(first, history(one)), api.OK)
	d.waits(getTx, getBranch)
	raw, branch := d.asks[0].Id, d.asks[1].Id
	d.asks = nil
	d.says(line(raw, rawOf(m))+"\n"+line(branch, branchOf(c.Blocks[1], 1, 0))+"\n"+line(second, history(one)), api.OK)
	d.waits(scriptSub, scriptSub)
	if w.Balance() != 55 {
		t.Error("Balance", w.Balance())
	}
}

// TestOneByOne: P26.5, a chunk of one header goes on.
func TestOneByOne(t *testing.T) {
	c := testchain.New(testchain.Easy())
	for range 4 {
		c.Grow()
	}
	w := made(t, 1)
	d := opened(t, w, 0)
	d.answers(headersSub, tip(c, 4), api.OK)
	for n := 1; n <= 4; n++ {
		if i := d.find(getChunk); i < 0 || d.asks[i].Params.Kids[0].Num != int64(n) {
			t.Fatal("a chunk from", n)
		}
		d.answers(getChunk, chunk(c, n, 1), api.OK)
	}
	d.waits(scriptSub)
	if _, n := w.Best(); n != 4 {
		t.Error("Best", n)
	}
}

// TestChunks: P26.4 and P26.5.
func TestChunks(t *testing.T) {
	p := testchain.Easy()
	c := testchain.New(p)
	for range 230 {
		c.Grow()
	}
	at := func(d *desk, from int) {
		t.Helper()
		i := d.find(getChunk)
		if i < 0 {
			t.Error("no chunk is asked for")
			return
		}
		if l := d.asks[i].Params.Kids; len(l) != 2 || l[0].Num != int64(from) || l[1].Num != 100 {
			t.Error("a chunk from", l[0].Num, "not", from)
		}
	}
	w, _ := New(p, 200, seed, 1)
	d := opened(t, w, 0)
	d.answers(headersSub, tip(c, 230), api.OK)
	at(d, 1)
	// A second tip is missed meanwhile: no second chunk is asked for.
	d.says(`{"method":"`+headersSub+`","params":[`+tip(c, 229)+`]}`, api.OK)
	d.waits(scriptSub, getChunk)
	d.answers(getChunk, chunk(c, 1, 100), api.OK)
	at(d, 101)
	d.answers(getChunk, chunk(c, 101, 100), api.OK)
	at(d, 201)
	d.answers(getChunk, chunk(c, 201, 28), api.OK)
	at(d, 229)
	d.answers(getChunk, chunk(c, 229, 1), api.OK)
	// The last one's height is the tip: but the tip that was missed asks for a chunk once more.
	at(d, 229)
	if id, n := w.Best(); n != 229 || id != header.Id(c.Blocks[229].Header) {
		t.Error("Best", n)
	}
	d.answers(getChunk, chunk(c, 229, 1), api.OK)
	d.waits(scriptSub)
	d.says(`{"method":"`+headersSub+`","params":[`+tip(c, 230)+`]}`, api.OK)
	d.waits(scriptSub)
	// Another chain from 150 on: back by 1, 2, 4, ..
	f := c.Fork(150)
	for n := range 90 {
		f.Grow(mint(uint32(1000 + n)))
	}
	e := opened(t, w, 1)
	e.answers(headersSub, tip(f, 240), api.OK)
	for back := 1; 231-back > 151; back *= 2 {
		at(e, 231-back)
		e.answers(getChunk, chunk(f, 231-back, 5), api.OK)
	}
	at(e, 231-128)
	e.answers(getChunk, chunk(f, 103, 100), api.OK)
	at(e, 203)
	e.says(`{"method":"`+headersSub+`","params":[`+tip(f, 239)+`]}`, api.OK)
	e.answers(getChunk, chunk(f, 203, 37), api.OK)
	if id, n := w.Best(); n != 239 || id != header.Id(f.Blocks[239].Header) {
		t.Error("the other chain", n)
	}
	at(e, 239) // back is 1 again; the best height, or the tip, is 239
	e.answers(getChunk, chunk(f, 239, 0), api.OK)
	e.waits(scriptSub)
	// A tip below the best height that is not known.
	g := f.Fork(5)
	g.Grow(mint(7777))
	g.Grow(mint(7778))
	h := opened(t, w, 2)
	h.answers(headersSub, tip(g, 7), api.OK)
	at(h, 7)
	h.answers(getChunk, chunk(g, 7, 1), api.OK)
	at(h, 6)
	h.answers(getChunk, chunk(g, 6, 2), api.OK)
	h.waits(scriptSub)
	// Of none: nothing is asked for; back stays.
	far := testchain.New(p)
	for range 3 {
		far.Grow(mint(1))
	}
	v := made(t, 1)
	i := opened(t, v, 0)
	i.answers(headersSub, tip(far, 3), api.OK)
	i.answers(getChunk, chunk(far, 1, 0), api.OK)
	i.waits(scriptSub)
	// At 1 there is nothing ahead: faulty.
	i.says(`{"method":"`+headersSub+`","params":[`+tip(far, 3)+`]}`, api.OK)
	at(i, 1)
	i.answers(getChunk, chunk(far, 3, 1), api.ErrFault)
}

// TestWatch: P26.8, 2: more scripts are watched, and asked for on each link.
func TestWatch(t *testing.T) {
	c := testchain.New(testchain.Easy())
	m := mint(1, out(1, gap.Script(seed, 0)), out(2, gap.Script(seed, 3)), out(4, gap.Script(seed, 9)))
	c.Grow(m)
	w := made(t, 2)
	d, e := opened(t, w, 5), opened(t, w, 1)
	one := api.Entry{Height: 1, Tx: tx.Id(m)}
	d.answers(headersSub, tip(c, 1), api.OK)
	d.answers(scriptSub, quoted(status.Of([]api.Entry{one})), api.OK)
	d.answers(getHistory, history(one), api.OK)
	d.answers(getTx, rawOf(m), api.OK)
	d.answers(getBranch, branchOf(c.Blocks[1], 1, 0), api.OK)
	// 0 is used: three are watched; 3 is not, till then.
	if w.Watched() != 3 || w.Balance() != 1 {
		t.Error("Watched", w.Watched())
	}
	if s := d.last.Sent; len(s) != 2 || s[0].K != 1 || s[1].K != 5 {
		t.Error("on each link, rising", s)
	}
	e.took(d.last)
	if l := e.asks[len(e.asks)-1]; l.Method != scriptSub || l.Params.Kids[0].Text != octet.Turned(gap.Hash(seed, 2)) {
		t.Error("of the new one")
	}
	v, _ := New(c.P, 20, seed, 3)
	for _, rec := range w.Records() {
		v.Load(rec)
	}
	if v.Watched() != 7 || v.Balance() != 3 {
		t.Error("Load watches more, and again", v.Watched())
	}
}

// TestMany: a wallet that can hold no more lets the job go.
func TestMany(t *testing.T) {
	c := testchain.New(testchain.Easy())
	w := made(t, 1)
	for n := range 17 {
		txs := []api.Tx{mint(uint32(n+1), out(0, nil))}
		for range 255 {
			txs = append(txs, spend([]api.Out{out(0, nil)}, at(txs[len(txs)-1], 0)))
		}
		if n == 16 {
			txs = []api.Tx{mint(99, out(5, gap.Script(seed, 0)))}
		}
		b := c.Grow(txs...)
		w.Load(append([]byte{1}, header.Put(b.Header)...))
		if n == 16 {
			continue
		}
		var ids []api.Hash
		for _, x := range txs {
			ids = append(ids, tx.Id(x))
		}
		for k, x := range txs {
			branch, _ := merkle.Branch(ids, k)
			if _, e := w.book.Prove(n+1, tx.Put(x), branch, k); e != api.OK {
				t.Fatal(e)
			}
		}
	}
	m := c.Blocks[17].Txs[0]
	one := api.Entry{Height: 17, Tx: tx.Id(m)}
	d := opened(t, w, 0)
	d.answers(headersSub, tip(c, 17), api.OK)
	d.answers(scriptSub, quoted(status.Of([]api.Entry{one})), api.OK)
	d.answers(getHistory, history(one), api.OK)
	d.answers(getTx, rawOf(m), api.OK)
	d.answers(getBranch, branchOf(c.Blocks[17], 17, 0), api.OK)
	if len(w.lines[0].scripts[0].jobs) != 0 || w.Balance() != 0 || w.Faulty(0) {
		t.Error("ErrMany")
	}
	d.waits()
}

// net is a wallet, servers, and lines that bring all at once or in parts.
type net struct {
	t       *testing.T
	r       *rand.Rand
	w       *Wallet
	servers []*server.Server
	to      [api.MaxLinks]int // server of a link, or -1
	session [api.MaxLinks]int
	up      [api.MaxLinks][]byte
	down    [api.MaxLinks][]byte
}

func (n *net) took(told api.Told) {
	for _, s := range told.Sent {
		n.up[s.K] = append(n.up[s.K], s.B...)
	}
}

func (n *net) link(k, s int) {
	told, e := n.w.Open(k)
	if e != api.OK {
		n.t.Fatal(e)
	}
	n.to[k] = s
	n.session[k], _ = n.servers[s].Open()
	n.took(told)
}

func (n *net) cut(k int) {
	n.w.Close(k)
	n.servers[n.to[k]].Close(n.session[k])
	n.up[k], n.down[k], n.to[k] = nil, nil, -1
}

// turned tells a server's sessions.
func (n *net) turned(s int) {
	for k, to := range n.to {
		if to == s {
			n.down[k] = append(n.down[k], n.servers[s].Turn(n.session[k])...)
		}
	}
}

// step brings some bytes; false, if there are none.
func (n *net) step() bool {
	for _, k := range n.r.Perm(api.MaxLinks) {
		if len(n.up[k]) > 0 && n.r.Intn(2) == 0 {
			m := 1 + n.r.Intn(len(n.up[k]))
			b, e := n.servers[n.to[k]].Feed(n.session[k], n.up[k][:m])
			if e != api.OK {
				n.t.Fatal("a server", e)
			}
			n.up[k] = n.up[k][m:]
			n.down[k] = append(n.down[k], b...)
			return true
		}
		if len(n.down[k]) > 0 {
			m := 1 + n.r.Intn(len(n.down[k]))
			b := n.down[k][:m]
			n.down[k] = n.down[k][m:]
			told, e := n.w.Feed(k, b)
			if e != api.OK {
				n.t.Fatal("the wallet", e)
			}
			n.took(told)
			if a, _ := n.w.Waiting(k); a > api.MaxAsks {
				n.t.Fatal("too many wait")
			}
			return true
		}
	}
	for k := range n.up {
		if len(n.up[k])+len(n.down[k]) > 0 {
			return true
		}
	}
	return false
}

// TestAll: all is found, whatever the servers' chains do; and nothing is made up.
func TestAll(t *testing.T) {
	r := rand.New(rand.NewSource(26))
	for round := range 25 {
		p := testchain.Easy()
		w, _ := New(p, 200, seed, 2+r.Intn(3))
		n := &net{t: t, r: r, w: w}
		var chains []*testchain.Chain
		for k := range n.to {
			n.to[k] = -1
		}
		for range 2 {
			s, _ := server.New(p)
			n.servers = append(n.servers, s)
			chains = append(chains, testchain.New(p))
		}
		used := 0
		tag := uint32(round * 1000)
		grow := func(s int) {
			c := chains[s]
			tag++
			pay := func() []byte {
				if r.Intn(3) == 0 {
					return []byte("other")
				}
				i := min(used, r.Intn(used+1))
				used = max(used, i+1)
				return gap.Script(seed, i)
			}
			var own []api.Unspent
			for i := range used + 1 {
				own = append(own, ledger.Unspents(c.Blocks, gap.Hash(seed, i))...)
			}
			txs := []api.Tx{mint(tag, out(uint64(1+r.Intn(99)), pay()))}
			for _, u := range own[:min(r.Intn(3), len(own))] {
				txs = append(txs, spend([]api.Out{out(u.Value/2, pay()), out(u.Value/2, pay())}, u.At))
			}
			b := c.Grow(txs...)
			if e := n.servers[s].Ingest(b); e != api.OK {
				t.Fatal("Ingest", e)
			}
			n.turned(s)
		}
		n.link(0, 0)
		n.link(3, 1)
		for range 60 {
			switch s := r.Intn(2); r.Intn(6) {
			case 0, 1:
				grow(s)
			case 2:
				if len(chains[s].Blocks) > 1 {
					chains[s] = chains[s].Fork(len(chains[s].Blocks) - 2)
					n.servers[s].Undo()
					n.turned(s)
				}
			case 3:
				k := r.Intn(api.MaxLinks)
				if n.to[k] >= 0 {
					n.cut(k)
				} else {
					n.link(k, s)
				}
			default:
				for range r.Intn(200) {
					n.step()
				}
			}
			for _, x := range w.Shown() {
				h, is := w.book.At(x.Height)
				_, id, e := proof.Right(h.Root, x.Raw, x.Branch, x.At)
				if !is || e != api.OK || id != x.Id {
					t.Fatal("W1")
				}
			}
		}
		if n.to[0] != 0 {
			if n.to[0] > 0 {
				n.cut(0)
			}
			n.link(0, 0)
		}
		for len(chains[0].Blocks) < len(chains[1].Blocks)+15 {
			grow(0)
		}
		for n.step() {
		}
		c := chains[0]
		if id, height := w.Best(); id != header.Id(c.Blocks[len(c.Blocks)-1].Header) {
			t.Fatal("the best chain", height)
		}
		sum := uint64(0)
		for i := range w.Watched() {
			h := gap.Hash(seed, i)
			if !slices.Equal(w.History(i), ledger.History(c.Blocks, h)) || !slices.Equal(w.Unspents(i), ledger.Unspents(c.Blocks, h)) || !slices.Equal(w.History(i), views.History(w.Shown(), h)) {
				t.Fatal("W4", round, i, w.History(i), ledger.History(c.Blocks, h))
			}
			sum += ledger.Balance(c.Blocks, h)
		}
		for i := range used + 3 {
			if len(ledger.History(c.Blocks, gap.Hash(seed, i))) > 0 && i >= w.Watched() {
				t.Fatal("W4: not watched", i, w.Watched())
			}
		}
		if w.Balance() != sum {
			t.Fatal("W4: the balance")
		}
		for k, to := range n.to {
			if a, q := w.Waiting(k); to >= 0 && (a != 0 || q != 0) {
				t.Fatal("still waits", k, a, q)
			}
		}
	}
}
