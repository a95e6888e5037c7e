package world

import (
	"math"
	"math/rand"
	"reflect"
	"slices"
	"strings"
	"testing"

	"scantling/api"
	"scantling/forest"
	"scantling/gap"
	"scantling/header"
	"scantling/ledger"
	"scantling/octet"
	"scantling/proof"
	"scantling/testchain"
	"scantling/wallet"
)

var out, mint, spend = testchain.Out, testchain.Mint, testchain.Spend

var seed = []byte("seed")

const all = math.MaxInt

func made(t *testing.T, servers, most int) *World {
	t.Helper()
	w, e := New(testchain.Easy(), 50, seed, 2, servers, most)
	if e != api.OK {
		t.Fatal(e)
	}
	return w
}

// does does acts, each of which should be answered so.
func does(t *testing.T, w *World, want api.Errno, l ...api.Act) {
	t.Helper()
	for i, a := range l {
		if e := w.Do(a); e != want {
			t.Errorf("%d: Do %d (K %d, S %d, N %d): %v, not %v", i, a.Do, a.K, a.S, a.N, e, want)
		}
	}
}

// pump brings all that is under way, until all is quiet.
func pump(t *testing.T, w *World) {
	t.Helper()
	for n := 0; !w.Quiet(); n++ {
		for k := range api.MaxLinks {
			if up, down := w.Way(k); up > 0 {
				does(t, w, api.OK, api.Act{Do: api.ActUp, K: k, N: all})
			} else if down > 0 {
				does(t, w, api.OK, api.Act{Do: api.ActDown, K: k, N: all})
			}
		}
		if n > 10000 {
			t.Fatal("never quiet")
		}
	}
}

// TestNew: P27.1.
func TestNew(t *testing.T) {
	p := testchain.Easy()
	for i, c := range []struct {
		p                       api.Params
		room                    int
		gap, servers, most, len int
		e                       api.Errno
	}{
		{p, 1, 1, 1, 44, 0, api.OK}, {p, 1, 1, 3, api.MaxDisk, 0, api.OK}, {p, 1, 1, 0, 1000, 0, api.ErrArg}, {p, 1, 1, 4, 1000, 0, api.ErrArg}, {p, 1, 1, -1, 1000, 0, api.ErrArg}, {p, 0, 1, 1, 1000, 0, api.ErrArg}, {p, 1, 0, 1, 1000, 0, api.ErrArg}, {p, 1, 51, 1, 1000, 0, api.ErrArg},
		{p, 1, 1, 1, 43, 0, api.ErrArg}, {p, 1, 1, 1, 0, 0, api.ErrArg}, {p, 1, 1, 1, api.MaxDisk + 1, 0, api.ErrArg}, {p, 1, 1, 1, 1000, 201, api.ErrArg}, {api.Params{}, 1, 1, 1, 1000, 0, api.ErrArg},
	} {
		w, e := New(c.p, c.room, make([]byte, c.len), c.gap, c.servers, c.most)
		if e != c.e || (w != nil) != (e == api.OK) {
			t.Error("New", i, e)
		}
	}
	w := made(t, 2, 1000)
	if w.Wallet() == nil || w.Server(0) == nil || w.Server(1) == nil || w.Server(0) == w.Server(1) || w.Server(2) != nil || w.Server(-1) != nil || !w.Quiet() {
		t.Error("a new one")
	}
	for _, k := range []int{-1, 0, 8, all} {
		if up, down := w.Way(k); up != 0 || down != 0 {
			t.Error("Way", k)
		}
	}
	var none *World
	up, down := none.Way(0)
	if none.Do(api.Act{}) != api.ErrNil || none.Wallet() != nil || none.Server(0) != nil || up+down != 0 || none.Quiet() {
		t.Error("no world")
	}
}

// TestErrors: P27.2, what each act refuses.
func TestErrors(t *testing.T) {
	w := made(t, 1, 10000)
	does(t, w, api.ErrArg, api.Act{}, api.Act{Do: 11}, api.Act{Do: 255})
	does(t, w, api.ErrNone, api.Act{Do: api.ActIngest, S: 1}, api.Act{Do: api.ActIngest, S: -1}, api.Act{Do: api.ActUndo, S: 1}, api.Act{Do: api.ActLink, S: 1}, api.Act{Do: api.ActCut}, api.Act{Do: api.ActCut, K: 99}, api.Act{Do: api.ActUp, N: -1}, api.Act{Do: api.ActDown, N: -1}, api.Act{Do: api.ActSay}, api.Act{Do: api.ActSay, K: -1}, api.Act{Do: api.ActLink, K: 99, S: 1})
	does(t, w, api.ErrPrev, api.Act{Do: api.ActIngest})
	does(t, w, api.ErrState, api.Act{Do: api.ActUndo})
	does(t, w, api.ErrArg, api.Act{Do: api.ActLink, K: -1}, api.Act{Do: api.ActLink, K: 8}, api.Act{Do: api.ActLink, K: 8, S: -1})
	does(t, w, api.OK, api.Act{Do: api.ActLink})
	if up, down := w.Way(0); up == 0 || down != 0 || w.Quiet() {
		t.Error("what Open sent goes up")
	}
	does(t, w, api.ErrState, api.Act{Do: api.ActLink}, api.Act{Do: api.ActLink, S: -1})
	does(t, w, api.ErrNone, api.Act{Do: api.ActSay, B: []byte("x")})
	does(t, w, api.ErrArg, api.Act{Do: api.ActUp, N: -1}, api.Act{Do: api.ActDown, N: -1})
	does(t, w, api.OK, api.Act{Do: api.ActUp, N: 0}, api.Act{Do: api.ActDown, N: 5}, api.Act{Do: api.ActUp, N: 10})
	up, _ := w.Way(0)
	does(t, w, api.OK, api.Act{Do: api.ActUp, N: up})
	if up, down := w.Way(0); up != 0 || down == 0 {
		t.Error("what is answered goes down")
	}
	does(t, w, api.OK, api.Act{Do: api.ActCut})
	if up, down := w.Way(0); up != 0 || down != 0 || !w.Quiet() {
		t.Error("cut")
	}
	// One byte is not quiet; none brings nothing.
	does(t, w, api.OK, api.Act{Do: api.ActLink, K: 1, S: -1}, api.Act{Do: api.ActUp, K: 1, N: all}, api.Act{Do: api.ActSay, K: 1, B: []byte("x")}, api.Act{Do: api.ActDown, K: 1, N: 0})
	if _, down := w.Way(1); down != 1 || w.Quiet() {
		t.Error("one byte")
	}
	does(t, w, api.OK, api.Act{Do: api.ActCut, K: 1})
	// A server with as many sessions as may be.
	for range api.MaxLinks {
		w.Server(0).Open()
	}
	does(t, w, api.ErrFull, api.Act{Do: api.ActLink, K: 3})
	does(t, w, api.ErrNone, api.Act{Do: api.ActCut, K: 3})
	w.Server(0).Close(4)
	does(t, w, api.OK, api.Act{Do: api.ActLink, K: 3})
	// A session that is closed, the number of which another one has.
	if b, e := w.Server(0).Feed(4, []byte("x\n")); b != nil || e != api.ErrFault {
		t.Error("closed by hand")
	}
	does(t, w, api.ErrNone, api.Act{Do: api.ActUp, K: 3, N: 1})
	does(t, w, api.OK, api.Act{Do: api.ActCut, K: 3})
	// The same, closed by what goes up: what is said on the one line is not the other one's.
	does(t, w, api.OK, api.Act{Do: api.ActLink, K: 3})
	w.Server(0).Feed(4, []byte("x"))
	does(t, w, api.ErrFault, api.Act{Do: api.ActUp, K: 3, N: 100})
	does(t, w, api.OK, api.Act{Do: api.ActLink, K: 6})
	does(t, w, api.ErrNone, api.Act{Do: api.ActUp, K: 3, N: all})
	if _, down := w.Way(3); down != 0 {
		t.Error("another line's answers")
	}
	does(t, w, api.OK, api.Act{Do: api.ActCut, K: 3}, api.Act{Do: api.ActUp, K: 6, N: all})
	if _, down := w.Way(6); down == 0 {
		t.Error("its own answers")
	}
}

// TestKept: R3, what a world is made of is its own.
func TestKept(t *testing.T) {
	c := testchain.New(testchain.Easy())
	c.Grow()
	p := c.P
	p.Points = []api.Point{{Height: 1, Hash: header.Id(c.Blocks[1].Header)}}
	own := []byte("seed")
	w, e := New(p, 50, own, 2, 1, 1000)
	if e != api.OK {
		t.Fatal(e)
	}
	p.Points[0].Hash = api.Hash{}
	own[0] = 'x'
	does(t, w, api.OK, api.Act{Do: api.ActCrash}, api.Act{Do: api.ActLink})
	does(t, w, api.OK, api.Act{Do: api.ActIngest, Block: c.Blocks[1]})
	pump(t, w)
	hash := octet.Turned(gap.Hash(seed, 0))
	if _, n := w.Wallet().Best(); n != 1 {
		t.Error("the points are kept")
	}
	does(t, w, api.OK, api.Act{Do: api.ActCut}, api.Act{Do: api.ActCrash}, api.Act{Do: api.ActLink, S: -1})
	if e := w.Do(api.Act{Do: api.ActSay, B: []byte(`{"id":1,"result":null}` + "\n" + `{"method":"blockchain.scripthash.subscribe","params":["` + hash + `",null]}` + "\n")}); e != api.OK {
		t.Error(e)
	}
	does(t, w, api.OK, api.Act{Do: api.ActDown, N: all})
}

// TestStranger: one that says what may not be, and one that plays a server.
func TestStranger(t *testing.T) {
	c := testchain.New(testchain.Easy())
	c.Grow()
	w := made(t, 1, 10000)
	does(t, w, api.OK, api.Act{Do: api.ActLink, K: 2, S: -7}, api.Act{Do: api.ActUp, K: 2, N: all})
	if up, down := w.Way(2); up+down != 0 {
		t.Error("a stranger answers nothing")
	}
	says := func(s string) {
		t.Helper()
		does(t, w, api.OK, api.Act{Do: api.ActSay, K: 2, B: []byte(s)})
	}
	says(`{"id":0,"result":{"height":1,"hex":"` + octet.Hex(header.Put(c.Blocks[1].Header)) + `"}}` + "\n")
	does(t, w, api.OK, api.Act{Do: api.ActDown, K: 2, N: all})
	if id, n := w.Wallet().Best(); n != 1 || id != header.Id(c.Blocks[1].Header) {
		t.Error("a header")
	}
	says("no\n")
	does(t, w, api.OK, api.Act{Do: api.ActDown, K: 2, N: 2})
	does(t, w, api.ErrFault, api.Act{Do: api.ActDown, K: 2, N: all})
	says("more")
	does(t, w, api.ErrState, api.Act{Do: api.ActDown, K: 2, N: 1}, api.Act{Do: api.ActLink, K: 2})
	if _, down := w.Way(2); down != 3 || !w.Wallet().Faulty(2) {
		t.Error("faulty", down)
	}
	does(t, w, api.OK, api.Act{Do: api.ActCut, K: 2})
	does(t, w, api.ErrState, api.Act{Do: api.ActLink, K: 2})
	does(t, w, api.OK, api.Act{Do: api.ActCrash}, api.Act{Do: api.ActLink, K: 2})
	if _, n := w.Wallet().Best(); n != 1 || w.Wallet().Faulty(2) {
		t.Error("the wallet is what it was, without links")
	}
	b := []byte("abc")
	does(t, w, api.OK, api.Act{Do: api.ActLink, K: 1, S: -1}, api.Act{Do: api.ActSay, K: 1, B: b})
	clear(b)
	does(t, w, api.OK, api.Act{Do: api.ActDown, K: 1, N: all})
}

// TestWhole: the ten examples of the whole.
func TestWhole(t *testing.T) {
	c := testchain.New(testchain.Easy())
	w := made(t, 1, 100000)
	does(t, w, api.OK, api.Act{Do: api.ActLink})
	pump(t, w)
	if w.Wallet().Balance() != 0 || w.Wallet().Watched() != 2 {
		t.Error("2")
	}
	old := c.Fork(0)
	pay := mint(1, out(5000, gap.Script(seed, 0)))
	does(t, w, api.OK, api.Act{Do: api.ActIngest, Block: c.Grow(pay)})
	_, down := w.Way(0)
	does(t, w, api.OK, api.Act{Do: api.ActDown, N: down})
	pump(t, w)
	if w.Wallet().Balance() != 5000 || w.Wallet().Watched() != 3 || len(w.Wallet().History(0)) != 1 {
		t.Error("4", w.Wallet().Balance())
	}
	does(t, w, api.OK, api.Act{Do: api.ActUndo})
	pump(t, w)
	if w.Wallet().Balance() != 5000 {
		t.Error("5")
	}
	does(t, w, api.OK, api.Act{Do: api.ActIngest, Block: old.Grow()}, api.Act{Do: api.ActIngest, Block: old.Grow()})
	pump(t, w)
	if id, n := w.Wallet().Best(); n != 2 || id != header.Id(old.Blocks[2].Header) || w.Wallet().Balance() != 0 || len(w.Wallet().Shown()) != 0 {
		t.Error("6")
	}
	does(t, w, api.OK, api.Act{Do: api.ActLink, K: 1, S: -1}, api.Act{Do: api.ActSay, K: 1, B: []byte("word\n")})
	does(t, w, api.ErrFault, api.Act{Do: api.ActDown, K: 1, N: all})
	records := w.Wallet().Records()
	does(t, w, api.OK, api.Act{Do: api.ActCrash})
	if !reflect.DeepEqual(w.Wallet().Records(), records) || w.Wallet().Watched() != 3 || !w.Quiet() {
		t.Error("8")
	}
	does(t, w, api.ErrNone, api.Act{Do: api.ActUp}, api.Act{Do: api.ActDown, K: 1})
	// A fuse, and what can't be kept.
	does(t, w, api.OK, api.Act{Do: api.ActLink}, api.Act{Do: api.ActIngest, Block: old.Grow()}, api.Act{Do: api.ActFuse, N: 0}, api.Act{Do: api.ActUp, N: all})
	does(t, w, api.ErrPower, api.Act{Do: api.ActDown, N: all})
	does(t, w, api.ErrPower, api.Act{Do: api.ActDown, N: all}, api.Act{Do: api.ActLink, K: 2, S: 9}, api.Act{Do: api.ActCompact}, api.Act{Do: api.ActFuse, N: 3}, api.Act{Do: api.ActDown, K: 9, N: -1})
	does(t, w, api.OK, api.Act{Do: api.ActUp, N: all}, api.Act{Do: api.ActCut})
	if w.Quiet() {
		t.Error("9: quiet, and dead")
	}
	does(t, w, api.OK, api.Act{Do: api.ActCrash}, api.Act{Do: api.ActLink})
	pump(t, w)
	if _, n := w.Wallet().Best(); n != 3 {
		t.Error("9")
	}
	// A header without its work as a tip.
	lazy := c.Blocks[0].Header
	lazy.Prev, lazy.Time = header.Id(c.Blocks[0].Header), lazy.Time+1
	f, _ := forest.New(c.P, 1)
	for {
		if _, _, e := f.Add(lazy); e == api.ErrWork {
			break
		}
		lazy.Nonce++
	}
	does(t, w, api.OK, api.Act{Do: api.ActLink, K: 5, S: -1}, api.Act{Do: api.ActSay, K: 5, B: []byte(`{"id":0,"result":{"height":1,"hex":"` + octet.Hex(header.Put(lazy)) + `"}}` + "\n")})
	does(t, w, api.ErrFault, api.Act{Do: api.ActDown, K: 5, N: all})
	// Compact leaves what there is.
	records = w.Wallet().Records()
	does(t, w, api.OK, api.Act{Do: api.ActCompact}, api.Act{Do: api.ActCrash})
	if !reflect.DeepEqual(w.Wallet().Records(), records) {
		t.Error("Compact")
	}
	does(t, w, api.OK, api.Act{Do: api.ActFuse, N: 1})
	does(t, w, api.ErrPower, api.Act{Do: api.ActCompact}, api.Act{Do: api.ActCompact}, api.Act{Do: api.ActLink})
	does(t, w, api.OK, api.Act{Do: api.ActCrash, Picks: []int{-1, 1 << 40, 7}})
	if !reflect.DeepEqual(w.Wallet().Records(), records) {
		t.Error("Compact, and the power goes")
	}
}

// TestFull: a full disk is an error, and turns nothing on it.
func TestFull(t *testing.T) {
	c := testchain.New(testchain.Easy())
	w := made(t, 1, 44+2*(81+36)+10)
	does(t, w, api.OK, api.Act{Do: api.ActLink})
	pump(t, w)
	for range 2 {
		does(t, w, api.OK, api.Act{Do: api.ActIngest, Block: c.Grow()})
		pump(t, w)
	}
	does(t, w, api.OK, api.Act{Do: api.ActIngest, Block: c.Grow()})
	does(t, w, api.ErrFull, api.Act{Do: api.ActDown, N: all})
	does(t, w, api.ErrPower, api.Act{Do: api.ActDown, N: all}, api.Act{Do: api.ActCompact})
	does(t, w, api.OK, api.Act{Do: api.ActCrash})
	if _, n := w.Wallet().Best(); n != 2 {
		t.Error("what was kept", n)
	}
	does(t, w, api.OK, api.Act{Do: api.ActLink})
	does(t, w, api.ErrFull, api.Act{Do: api.ActCompact})
	does(t, w, api.OK, api.Act{Do: api.ActUp, N: all})
	does(t, w, api.ErrFull, api.Act{Do: api.ActDown, N: all})
}

// split parts records into headers' and others.
func split(l [][]byte) (heads, proven [][]byte) {
	for _, rec := range l {
		if rec[0] == 1 {
			heads = append(heads, rec)
		} else {
			proven = append(proven, rec)
		}
	}
	return heads, proven
}

// of makes a wallet by records.
func of(w *World, l [][]byte) *wallet.Wallet {
	v, _ := wallet.New(w.p, w.room, seed, w.gap)
	for _, rec := range l {
		v.Load(rec)
	}
	return v
}

// chance is a world that goes by chance, and what is known of it from without.
type chance struct {
	t      *testing.T
	r      *rand.Rand
	w      *World
	chains []*testchain.Chain
	used   int
	tag    uint32
	log    [][]byte // records that were kept
}

// grow lets a server's chain grow by a block.
func (x *chance) grow(s int) {
	c := x.chains[s]
	x.tag++
	pay := func() []byte {
		i := x.r.Intn(x.used + 1)
		x.used = max(x.used, i+1)
		return gap.Script(seed, i)
	}
	txs := []api.Tx{mint(x.tag, out(uint64(1+x.r.Intn(99)), pay()))}
	if own := ledger.Unspents(c.Blocks, gap.Hash(seed, x.r.Intn(x.used))); len(own) > 0 {
		txs = append(txs, spend([]api.Out{out(own[0].Value/2, pay()), out(1, []byte(strings.Repeat("x", x.r.Intn(9))))}, own[0].At))
		if own[0].Value < 4 {
			txs = txs[:1]
		}
	}
	does(x.t, x.w, api.OK, api.Act{Do: api.ActIngest, S: s, Block: c.Grow(txs...)})
}

// down brings some bytes down, and looks at what was kept; with an error it crashes.
func (x *chance) down(k int) {
	_, n := x.w.Way(k)
	beforeH, beforeP := split(x.w.Wallet().Records())
	e := x.w.Do(api.Act{Do: api.ActDown, K: k, N: 1 + x.r.Intn(min(n, 3000)+1)})
	heads, proven := split(x.w.Wallet().Records())
	fresh := slices.Concat(heads[len(beforeH):], proven[len(beforeP):])
	switch e {
	case api.OK, api.ErrNone, api.ErrFault:
		x.log = append(x.log, fresh...)
	case api.ErrPower:
		x.crash(fresh, nil)
	default:
		x.t.Fatal("down", e)
	}
}

// crash takes the power: what is found is the log and a beginning of what was to be added; or, of a Compact, all of that.
func (x *chance) crash(fresh, whole [][]byte) {
	does(x.t, x.w, api.OK, api.Act{Do: api.ActCrash, Picks: []int{x.r.Intn(900) - 100, x.r.Intn(900) - 100}})
	found := x.w.Wallet().Records()
	for n := len(fresh); n >= 0; n-- {
		l := slices.Concat(x.log, fresh[:n])
		if reflect.DeepEqual(of(x.w, l).Records(), found) {
			x.log = l
			return
		}
	}
	if whole == nil || !reflect.DeepEqual(of(x.w, whole).Records(), found) {
		x.t.Fatal("W3: what is found is of no beginning")
	}
	x.log = whole
}

// step does one thing by chance.
func (x *chance) step() {
	s, k := x.r.Intn(len(x.chains)), x.r.Intn(api.MaxLinks)
	switch n := x.r.Intn(40); {
	case n < 3:
		x.grow(s)
	case n == 3 && len(x.chains[s].Blocks) > 1:
		does(x.t, x.w, api.OK, api.Act{Do: api.ActUndo, S: s})
		x.chains[s] = x.chains[s].Fork(len(x.chains[s].Blocks) - 2)
	case n == 4:
		x.w.Do(api.Act{Do: api.ActLink, K: k, S: s})
	case n == 5:
		x.w.Do(api.Act{Do: api.ActCut, K: k})
	case n == 6:
		x.w.Do(api.Act{Do: api.ActFuse, N: x.r.Intn(8)})
	case n == 7 && x.r.Intn(3) == 0:
		x.crash(nil, nil)
	case n == 8 && x.r.Intn(3) == 0:
		l := x.w.Wallet().Records()
		switch e := x.w.Do(api.Act{Do: api.ActCompact}); e {
		case api.OK:
			x.log = l
		case api.ErrPower:
			x.crash(nil, l)
		default:
			x.t.Fatal("Compact", e)
		}
	case n < 24:
		up, _ := x.w.Way(k)
		x.w.Do(api.Act{Do: api.ActUp, K: k, N: x.r.Intn(up + 9)})
	default:
		x.down(k)
	}
}

// TestChance: W1 to W4, P27.3 and P27.4.
func TestChance(t *testing.T) {
	r := rand.New(rand.NewSource(27))
	for round := range 12 {
		x := &chance{t: t, r: r, tag: uint32(10000 * round)}
		w, e := New(testchain.Easy(), 4096, seed, 2, 2, 1<<20)
		if e != api.OK {
			t.Fatal(e)
		}
		x.w = w
		x.chains = []*testchain.Chain{testchain.New(w.p), testchain.New(w.p)}
		for range 700 {
			x.step()
			best, height := w.Wallet().Best()
			f, _ := forest.New(w.p, 4096)
			heads, _ := split(w.Wallet().Records())
			for _, rec := range heads {
				h, _ := header.Get(rec[1:])
				f.Add(h)
			}
			if id, n := f.Best(); id != best || n != height {
				t.Fatal("W2")
			}
			for _, p := range w.Wallet().Shown() {
				h, is := f.At(p.Height)
				if _, id, e := proof.Right(h.Root, p.Raw, p.Branch, p.At); !is || e != api.OK || id != p.Id || p.Height < 1 {
					t.Fatal("W1")
				}
			}
		}
		x.finish()
	}
}

// finish lets the first server's chain have the most work, and all be quiet: all is found then.
func (x *chance) finish() {
	w, t := x.w, x.t
	x.crash(nil, nil)
	does(t, w, api.OK, api.Act{Do: api.ActLink, K: 6}, api.Act{Do: api.ActLink, K: 2, S: 1})
	for {
		id, height := w.Wallet().Best()
		c := x.chains[0]
		if len(c.Blocks)-1 > height+2 || id == header.Id(c.Blocks[len(c.Blocks)-1].Header) {
			break
		}
		x.grow(0)
	}
	for len(x.chains[0].Blocks) < len(x.chains[1].Blocks)+15 {
		x.grow(0)
	}
	pump(t, w)
	c := x.chains[0]
	if id, n := w.Wallet().Best(); id != header.Id(c.Blocks[len(c.Blocks)-1].Header) {
		t.Fatal("the best chain", n, len(c.Blocks)-1)
	}
	sum := uint64(0)
	for i := range w.Wallet().Watched() {
		h := gap.Hash(seed, i)
		if !slices.Equal(w.Wallet().History(i), ledger.History(c.Blocks, h)) || !slices.Equal(w.Wallet().Unspents(i), ledger.Unspents(c.Blocks, h)) {
			t.Fatal("W4", i)
		}
		sum += ledger.Balance(c.Blocks, h)
	}
	if w.Wallet().Balance() != sum {
		t.Fatal("W4: the balance")
	}
}
