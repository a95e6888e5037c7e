package index

import (
	"math/rand"
	"reflect"
	"slices"
	"testing"

	"scantling/api"
	"scantling/header"
	"scantling/ledger"
	"scantling/merkle"
	"scantling/sha"
	"scantling/testchain"
	"scantling/tx"
)

var at, out, mint, spend = testchain.At, testchain.Out, testchain.Mint, testchain.Spend

// told is all that an index tells of some scripts and transactions.
func told(x *Index, scripts []api.Hash, ids []api.Hash) []any {
	var l []any
	l = append(l, x.Height())
	for n := -1; n < x.Height()+2; n++ {
		h, is := x.Header(n)
		l = append(l, h, is)
	}
	for _, s := range scripts {
		l = append(l, x.History(s), x.Unspents(s), x.Balance(s))
	}
	for _, id := range ids {
		t, n, is := x.Tx(id)
		b, k, has := x.Branch(id)
		l = append(l, t, n, is, b, k, has)
	}
	return l
}

// TestExample: the chapter's.
func TestExample(t *testing.T) {
	c := testchain.New(testchain.Easy())
	x := New(c.P.First)
	if x.Pop() != api.ErrState || x.Height() != 0 {
		t.Error("a new one")
	}
	m := mint(1, out(50, []byte("s")))
	y := spend([]api.Out{out(30, []byte("s")), out(20, []byte("u"))}, at(m, 0))
	if x.Push(c.Grow(m)) != api.OK || x.Push(c.Grow(y)) != api.OK || x.Height() != 2 {
		t.Error("Push")
	}
	for n := -1; n < 4; n++ {
		h, is := x.Header(n)
		if is != (n >= 0 && n < 3) || is && h != c.Blocks[n].Header || !is && h != (api.Header{}) {
			t.Error("Header", n)
		}
	}
	s := sha.Sum([]byte("s"))
	if g, n, is := x.Tx(tx.Id(y)); !is || n != 2 || !tx.Same(g, y) {
		t.Error("Tx")
	}
	if b, n, is := x.Branch(tx.Id(y)); !is || n != 1 || !slices.Equal(b, []api.Hash{tx.Id(c.Blocks[2].Txs[0])}) {
		t.Error("Branch")
	}
	if len(x.History(s)) != 2 || x.Balance(s) != 30 {
		t.Error("History")
	}
	if x.Pop() != api.OK || !slices.Equal(x.History(s), []api.Entry{{Height: 1, Tx: tx.Id(m)}}) || x.Balance(s) != 50 {
		t.Error("Pop")
	}
	if _, n, is := x.Tx(tx.Id(y)); is || n != 0 {
		t.Error("Tx of none")
	}
	if b, n, is := x.Branch(tx.Id(y)); is || n != 0 || b != nil {
		t.Error("Branch of none")
	}
}

// TestErrors: P16.1, those of ledger.Right, and nothing is turned.
func TestErrors(t *testing.T) {
	c := testchain.New(testchain.Easy())
	x := New(c.P.First)
	m := mint(1, out(50, []byte("s")))
	x.Push(c.Grow(m))
	before := told(x, []api.Hash{sha.Sum([]byte("s"))}, []api.Hash{tx.Id(m)})
	good := spend([]api.Out{out(50, []byte("s"))}, at(m, 0))
	blocks := []api.Block{
		c.Blocks[1], {Header: api.Header{Prev: header.Id(c.Blocks[1].Header)}}, c.Next(mint(2, out(0, nil)), good, good), c.Next(mint(2, out(0, nil)), good, mint(3, out(0, nil))),
		c.Next(mint(2, out(0, nil)), good, spend([]api.Out{out(51, nil)}, at(good, 0))), c.Next(good), {Header: c.Next(mint(2, out(0, nil))).Header, Txs: []api.Tx{good}},
	}
	for i, b := range blocks {
		_, want := ledger.Right(append(slices.Clone(c.Blocks), b))
		if e := x.Push(b); e != want || e == api.OK {
			t.Error("Push", i, e, want)
		}
		if !reflect.DeepEqual(before, told(x, []api.Hash{sha.Sum([]byte("s"))}, []api.Hash{tx.Id(m)})) {
			t.Error("turned", i)
		}
	}
}

// TestBack: P16.4, what a popped block had is not there any more, and what it had spent is.
func TestBack(t *testing.T) {
	c := testchain.New(testchain.Easy())
	x := New(c.P.First)
	m := mint(1, out(50, []byte("s")))
	x.Push(c.Grow(m))
	y := spend([]api.Out{out(30, []byte("s"))}, at(m, 0))
	x.Push(c.Next(mint(2, out(0, nil)), y))
	x.Pop()
	if e := x.Push(c.Next(mint(2, out(0, nil)), spend([]api.Out{out(1, nil)}, at(y, 0)))); e != api.ErrSpent {
		t.Error("an output of a popped block", e)
	}
	if e := x.Push(c.Next(mint(2, out(0, nil)), spend([]api.Out{out(1, nil)}, at(m, 0)))); e != api.OK {
		t.Error("what it had spent", e)
	}
}

// TestNone: no index.
func TestNone(t *testing.T) {
	var x *Index
	h, is := x.Header(0)
	g, n, has := x.Tx(api.Hash{})
	b, k, leads := x.Branch(api.Hash{})
	if x.Push(api.Block{}) != api.ErrNil || x.Pop() != api.ErrNil || x.Height() != 0 || h != (api.Header{}) || is || x.History(api.Hash{}) != nil || x.Unspents(api.Hash{}) != nil || x.Balance(api.Hash{}) != 0 || !tx.Same(g, api.Tx{}) || n != 0 || has || b != nil || k != 0 || leads {
		t.Error("no index")
	}
}

// TestMemory: R3.
func TestMemory(t *testing.T) {
	c := testchain.New(testchain.Easy())
	x := New(c.P.First)
	m := mint(1, out(50, []byte("s")))
	m.Ins[0].Script = []byte("abc")
	id := tx.Id(m)
	x.Push(c.Grow(m))
	s := sha.Sum([]byte("s"))
	m.Outs[0].Script[0], m.Ins[0].Script[0] = 'x', 'x'
	g, _, _ := x.Tx(id)
	g.Outs[0].Script[0] = 'y'
	g, _, _ = x.Tx(id)
	h := x.History(s)
	h[0].Height = 7
	_ = append(h[:0], api.Entry{})
	if tx.Id(g) != id || x.History(s)[0].Height != 1 {
		t.Error("kept, or shared")
	}
}

// TestAll: P16.2 to P16.4 by chance, against ledger.
func TestAll(t *testing.T) {
	r := rand.New(rand.NewSource(16))
	scripts := [][]byte{[]byte("a"), []byte("b"), nil, []byte("c")}
	var hashes []api.Hash
	for _, s := range scripts {
		hashes = append(hashes, sha.Sum(s))
	}
	for range 10 {
		c := testchain.New(testchain.Easy())
		x := New(c.P.First)
		var ids []api.Hash
		var past [][]any
		for tag := range 50 {
			if r.Intn(3) == 0 {
				e := x.Pop()
				if (e == api.OK) != (len(c.Blocks) > 1) {
					t.Fatal("Pop", e)
				}
				if e == api.OK {
					c = c.Fork(len(c.Blocks) - 2)
					if !reflect.DeepEqual(told(x, hashes, nil), past[len(past)-1]) {
						t.Fatal("P16.4")
					}
					past = past[:len(past)-1]
				}
			} else {
				past = append(past, told(x, hashes, nil))
				txs := []api.Tx{mint(uint32(tag), out(uint64(r.Intn(100)), scripts[r.Intn(4)]), out(9, scripts[r.Intn(4)]))}
				var free []api.Unspent
				for _, h := range hashes {
					free = append(free, ledger.Unspents(c.Blocks, h)...)
				}
				for range min(r.Intn(4), len(free)) {
					u := free[0]
					free = free[1:]
					y := spend([]api.Out{out(u.Value, scripts[r.Intn(4)]), out(0, scripts[r.Intn(4)])}, u.At)
					txs = append(txs, y)
					if r.Intn(2) == 0 {
						txs = append(txs, spend([]api.Out{out(u.Value, scripts[r.Intn(4)])}, at(y, 0)))
					}
				}
				b := c.Grow(txs...)
				if e := x.Push(b); e != api.OK {
					t.Fatal("Push", e)
				}
				for _, y := range txs {
					ids = append(ids, tx.Id(y))
				}
			}
			for _, h := range hashes {
				if !slices.Equal(x.History(h), ledger.History(c.Blocks, h)) || !slices.Equal(x.Unspents(h), ledger.Unspents(c.Blocks, h)) || x.Balance(h) != ledger.Balance(c.Blocks, h) {
					t.Fatal("P16.2")
				}
			}
			for _, id := range ids {
				y, n, is := x.Tx(id)
				branch, k, has := x.Branch(id)
				if is != has || is && tx.Id(y) != id {
					t.Fatal("P16.3")
				}
				if is {
					root, e := merkle.Fold(id, branch, k)
					if e != api.OK || root != c.Blocks[n].Header.Root || tx.Id(c.Blocks[n].Txs[k]) != id {
						t.Fatal("P16.3: the branch")
					}
				}
			}
		}
	}
}
