package book

import (
	"bytes"
	"math"
	"math/rand"
	"reflect"
	"slices"
	"testing"

	"scantling/api"
	"scantling/forest"
	"scantling/header"
	"scantling/merkle"
	"scantling/octet"
	"scantling/proof"
	"scantling/testchain"
	"scantling/tx"
)

var at, out, mint, spend = testchain.At, testchain.Out, testchain.Mint, testchain.Spend

func made(t *testing.T, room int) (*Book, *testchain.Chain) {
	t.Helper()
	c := testchain.New(testchain.Easy())
	b, e := New(c.P, room)
	if e != api.OK {
		t.Fatal(e)
	}
	return b, c
}

// proofOf is what proves the k-th transaction of a block.
func proofOf(x api.Block, k int) (raw []byte, branch []api.Hash) {
	var ids []api.Hash
	for _, t := range x.Txs {
		ids = append(ids, tx.Id(t))
	}
	branch, _ = merkle.Branch(ids, k)
	return tx.Put(x.Txs[k]), branch
}

// allOf is all that a book tells.
func allOf(b *Book) []any {
	id, n := b.Best()
	all, forks := b.Size()
	return []any{id, n, all, forks, b.Proven(), b.Shown(), b.Records()}
}

// TestHeaders: P24.1, P24.2, and Records.
func TestHeaders(t *testing.T) {
	if b, e := New(api.Params{}, 1); b != nil || e != api.ErrArg {
		t.Error("New")
	}
	if b, e := New(testchain.Easy(), 0); b != nil || e != api.ErrArg {
		t.Error("New")
	}
	b, c := made(t, 5)
	if len(b.Records()) != 0 || len(b.Proven()) != 0 || len(b.Shown()) != 0 {
		t.Error("a new one")
	}
	var want [][]byte
	for range 2 {
		h := c.Grow().Header
		rec, e := b.Header(h)
		if e != api.OK || !bytes.Equal(rec, append([]byte{1}, header.Put(h)...)) || len(rec) != 81 {
			t.Error("Header", e)
		}
		want = append(want, rec)
		if rec, e := b.Header(h); e != api.OK || rec != nil {
			t.Error("held already")
		}
	}
	if rec, e := b.Header(c.P.First); e != api.OK || rec != nil {
		t.Error("First")
	}
	if rec, e := b.Header(api.Header{}); e != api.ErrPrev || rec != nil {
		t.Error("follows none")
	}
	bad := c.Next(mint(1)).Header
	bad.Time = 0
	f, _ := forest.New(c.P, 5)
	for _, h := range c.Headers() {
		f.Add(h)
	}
	_, _, fe := f.Add(bad)
	if rec, e := b.Header(bad); e != fe || e == api.OK || rec != nil {
		t.Error("the forest's error", e)
	}
	if !reflect.DeepEqual(b.Records(), want) {
		t.Error("Records")
	}
	if h, is := b.At(1); !is || h != c.Blocks[1].Header {
		t.Error("At")
	}
	if h, is := b.At(3); is || h != (api.Header{}) {
		t.Error("At of none")
	}
}

// TestProve: P24.3.
func TestProve(t *testing.T) {
	b, c := made(t, 5)
	m := mint(1, out(50, []byte("s")))
	x := spend([]api.Out{out(5, nil)}, at(m, 0))
	one, two := c.Grow(m), c.Grow(x)
	b.Header(one.Header)
	b.Header(two.Header)
	raw, branch := proofOf(two, 1)
	for i, k := range []struct {
		height int
		raw    []byte
		branch []api.Hash
		at     int
		e      api.Errno
	}{
		{0, raw, branch, 1, api.ErrNone}, {9, raw, branch, 1, api.ErrNone}, {3, nil, nil, -1, api.ErrNone}, {-1, raw, branch, 1, api.ErrNone}, {math.MinInt, nil, nil, 0, api.ErrNone}, {1, raw, branch, 1, api.ErrProof}, {2, raw[1:], branch, 1, api.ErrBytes},
		{2, raw, branch, 2, api.ErrArg}, {2, raw, branch, -1, api.ErrArg}, {2, raw, make([]api.Hash, 33), 1, api.ErrMany}, {2, raw, nil, 0, api.ErrProof}, {2, make([]byte, api.MaxTx+1), nil, 0, api.ErrMany},
	} {
		if rec, e := b.Prove(k.height, k.raw, k.branch, k.at); e != k.e || rec != nil || len(b.Proven()) != 0 {
			t.Error("Prove", i, e, k.e)
		}
	}
	rec, e := b.Prove(2, raw, branch, 1)
	id := header.Id(two.Header)
	want := slices.Concat([]byte{2, 2, 0, 0, 0}, id[:], []byte{1, 0, 0, 0, 1}, branch[0][:], raw)
	if e != api.OK || !bytes.Equal(rec, want) {
		t.Error("its record", e)
	}
	if rec, e := b.Prove(2, raw, branch, 1); e != api.OK || rec != nil || len(b.Proven()) != 1 {
		t.Error("proven already")
	}
	// The same with another witness is the same transaction.
	clothed, _ := tx.Get(raw)
	clothed.Ins[0].Witness = [][]byte{{1}}
	if rec, e := b.Prove(2, tx.Put(clothed), branch, 1); e != api.OK || rec != nil || len(b.Proven()) != 1 {
		t.Error("another witness")
	}
	p := b.Proven()[0]
	if p.Height != 2 || p.Head != id || p.At != 1 || p.Id != tx.Id(x) || !bytes.Equal(p.Raw, raw) || !slices.Equal(p.Branch, branch) || !tx.Same(p.T, x) {
		t.Error("Proven")
	}
	if !reflect.DeepEqual(b.Shown(), b.Proven()) || !bytes.Equal(b.Records()[2], rec) && !bytes.Equal(b.Records()[2], want) {
		t.Error("Shown, Records")
	}
	// R3.
	clear(raw)
	clear(branch)
	p.Raw[0], p.Branch[0], p.T.Outs[0].Value = 9, api.Hash{}, 7
	b.Records()[2][0] = 9
	if got := b.Proven()[0]; !bytes.Equal(got.Raw, tx.Put(x)) || got.Branch[0] == (api.Hash{}) || got.T.Outs[0].Value != 5 || !bytes.Equal(b.Records()[2], want) {
		t.Error("kept, or shared")
	}
}

// TestMany: P24.3, no more than MaxProven; and one block's transactions, by their places.
func TestMany(t *testing.T) {
	b, c := made(t, 5)
	n := 0
	for n <= api.MaxProven {
		txs := []api.Tx{mint(uint32(n+1), out(uint64(n), nil))}
		for range 255 {
			txs = append(txs, spend([]api.Out{out(0, nil)}, at(txs[len(txs)-1], 0)))
		}
		blk := c.Grow(txs...)
		b.Header(blk.Header)
		for k := range txs {
			k = len(txs) - 1 - k
			raw, branch := proofOf(blk, k)
			rec, e := b.Prove(len(c.Blocks)-1, raw, branch, k)
			n++
			if n > api.MaxProven {
				if e != api.ErrMany || rec != nil {
					t.Error("one more", e)
				}
				break
			}
			if e != api.OK {
				t.Fatal("Prove", n, e)
			}
		}
	}
	raw, branch := proofOf(c.Blocks[1], 7)
	if rec, e := b.Prove(1, raw, branch, 7); e != api.OK || rec != nil {
		t.Error("proven already goes ahead", e)
	}
	if e := b.Apply(slices.Concat([]byte{2, 17, 0, 0, 0}, make([]byte, 37))); e != api.ErrNone {
		t.Error("Apply", e)
	}
	shown := b.Shown()
	for i, p := range shown {
		if p.Height != 1+i/256 || p.At != i%256 {
			t.Fatal("the order", i, p.Height, p.At)
		}
	}
	if len(shown) != api.MaxProven || len(b.Proven()) != api.MaxProven || b.Proven()[0].At != 255 {
		t.Error("how many")
	}
}

// TestApply: P24.4.
func TestApply(t *testing.T) {
	b, c := made(t, 5)
	m := mint(1, out(50, []byte("s")))
	one := c.Grow(m)
	other := testchain.New(c.P).Next(mint(2, out(60, []byte("s"))))
	head := slices.Concat([]byte{1}, header.Put(one.Header))
	if e := b.Apply(head); e != api.OK {
		t.Error("a header", e)
	}
	b.Header(other.Header)
	long := slices.Concat([]byte{1}, header.Put(c.Next(mint(3)).Header), []byte{0})
	record := func(height int, head api.Hash, at int, branch []api.Hash, raw []byte) []byte {
		r := octet.Put([]byte{2}, uint64(height), 4)
		r = append(r, head[:]...)
		r = append(octet.Put(r, uint64(at), 4), byte(len(branch)))
		for _, h := range branch {
			r = append(r, h[:]...)
		}
		return append(r, raw...)
	}
	id, fork := header.Id(one.Header), header.Id(other.Header)
	raw := tx.Put(m)
	good := record(1, id, 0, nil, raw)
	for i, k := range []struct {
		rec []byte
		e   api.Errno
	}{
		{nil, api.ErrBytes}, {[]byte{0}, api.ErrBytes}, {[]byte{3}, api.ErrBytes}, {[]byte{1}, api.ErrBytes}, {[]byte{2}, api.ErrBytes}, {head[:80], api.ErrBytes}, {long, api.ErrBytes}, {slices.Concat([]byte{1}, header.Put(api.Header{})), api.ErrPrev},
		{good[:41], api.ErrBytes}, {good[:4], api.ErrBytes}, {good[:40], api.ErrBytes}, {record(1, id, 0, make([]api.Hash, 3), nil)[:42+95], api.ErrBytes}, {record(0, id, 0, nil, raw), api.ErrBytes}, {record(1<<31, id, 0, nil, raw), api.ErrBytes}, {record(1<<31-1, id, 0, nil, raw), api.ErrNone},
		{record(2, id, 0, nil, raw), api.ErrNone}, {record(1, api.Hash{}, 0, nil, raw), api.ErrNone}, {record(1, id, 0, nil, nil), api.ErrBytes}, {record(1, id, 1, nil, raw), api.ErrArg}, {record(1, id, 0, make([]api.Hash, 33), raw), api.ErrMany}, {record(1, id, 0, make([]api.Hash, 1), raw), api.ErrProof}, {record(1, fork, 0, nil, raw), api.ErrProof},
		{head, api.OK}, {record(1, fork, 0, nil, tx.Put(other.Txs[0])), api.OK}, {good, api.OK}, {good, api.OK},
	} {
		before := allOf(b)
		if e := b.Apply(k.rec); e != k.e {
			t.Error("Apply", i, e, k.e)
		} else if e != api.OK && !reflect.DeepEqual(before, allOf(b)) {
			t.Error("turned", i)
		}
	}
	if len(b.Proven()) != 2 || len(b.Shown()) != 1 || b.Shown()[0].Id != tx.Id(m) {
		t.Error("on the best chain or not")
	}
	// The other chain becomes the best one.
	side := testchain.New(c.P)
	side.Blocks = append(side.Blocks, other)
	b.Header(side.Grow().Header)
	if s := b.Shown(); len(s) != 1 || s[0].Head != fork || len(b.Proven()) != 2 {
		t.Error("Shown of the other chain")
	}
}

// TestGone: what was proven by a header that is gone is gone.
func TestGone(t *testing.T) {
	b, c := made(t, 1)
	one := c.Grow(mint(1, out(1, nil)))
	other := testchain.New(c.P).Next(mint(2, out(2, nil)))
	third := testchain.New(c.P).Next(mint(3, out(3, nil)))
	b.Header(one.Header)
	b.Header(other.Header)
	id := header.Id(other.Header)
	if e := b.Apply(slices.Concat([]byte{2, 1, 0, 0, 0}, id[:], make([]byte, 5), tx.Put(other.Txs[0]))); e != api.OK {
		t.Fatal(e)
	}
	raw, branch := proofOf(one, 0)
	b.Prove(1, raw, branch, 0)
	if len(b.Proven()) != 2 {
		t.Error("two")
	}
	if rec, e := b.Header(third.Header); e != api.OK || len(rec) != 81 {
		t.Error("Header", e)
	}
	if p := b.Proven(); len(p) != 1 || p[0].Head != header.Id(one.Header) || len(b.Records()) != 3 {
		t.Error("gone")
	}
	if e := b.Apply(slices.Concat([]byte{2, 1, 0, 0, 0}, id[:], make([]byte, 5), tx.Put(other.Txs[0]))); e != api.ErrNone {
		t.Error("its header is gone", e)
	}
}

// TestTwice: of one id the first one alone is shown.
func TestTwice(t *testing.T) {
	b, c := made(t, 1)
	// A block that no ledger takes: a transaction stands there twice.
	m := mint(1, out(1, nil))
	x := mint(2, out(2, nil))
	blk := c.Next(m, x, m)
	b.Header(blk.Header)
	c.Blocks = append(c.Blocks, blk)
	next := c.Grow(x, m)
	b.Header(next.Header)
	for _, k := range []struct{ height, at int }{{2, 1}, {2, 0}, {1, 2}, {1, 1}} {
		raw, branch := proofOf(c.Blocks[k.height], k.at)
		if _, e := b.Prove(k.height, raw, branch, k.at); e != api.OK {
			t.Fatal(e)
		}
	}
	s := b.Shown()
	if len(b.Proven()) != 4 || len(s) != 2 || s[0].Height != 1 || s[0].At != 1 || s[1].Height != 1 || s[1].At != 2 {
		t.Error("Shown", len(b.Proven()), len(s))
	}
}

// TestNone: no book.
func TestNone(t *testing.T) {
	var b *Book
	rec, e := b.Header(api.Header{})
	rec2, e2 := b.Prove(1, nil, nil, 0)
	id, n := b.Best()
	h, is := b.At(0)
	all, forks := b.Size()
	if rec != nil || rec2 != nil || e != api.ErrNil || e2 != api.ErrNil || b.Apply(nil) != api.ErrNil || id != (api.Hash{}) || n != 0 || h != (api.Header{}) || is || all != 0 || forks != 0 || b.Proven() != nil || b.Shown() != nil || b.Records() != nil {
		t.Error("no book")
	}
}

// TestAgain: P24.6 by chance: the records make the same book; and all that is shown is proven.
func TestAgain(t *testing.T) {
	r := rand.New(rand.NewSource(24))
	for range 20 {
		room := 1 + r.Intn(4)
		b, c := made(t, room)
		var records [][]byte
		chains := []*testchain.Chain{c, testchain.New(c.P), testchain.New(c.P)}
		gone := false
		for tag := range 60 {
			k := r.Intn(3)
			c := chains[k]
			if r.Intn(8) == 0 {
				chains[k] = c.Fork(r.Intn(len(c.Blocks)))
				c = chains[k]
			}
			c.Grow(mint(uint32(tag+1), out(uint64(tag), []byte("a"))), mint(uint32(tag+100), out(1, nil)))
			rec, e := b.Header(c.Blocks[len(c.Blocks)-1].Header)
			if e == api.OK && rec != nil {
				records = append(records, rec)
			}
			n := r.Intn(len(c.Blocks))
			if n > 0 {
				at := r.Intn(2)
				raw, branch := proofOf(c.Blocks[n], at)
				rec, e := b.Prove(n, raw, branch, at)
				if e == api.OK && rec != nil {
					records = append(records, rec)
				}
			}
			all, _ := b.Size()
			if len(b.Records())-len(b.Proven()) != all-1 {
				t.Fatal("Records of headers")
			}
			heads := 0
			for _, rec := range records {
				if rec[0] == 1 {
					heads++
				}
			}
			gone = gone || heads != all-1
		}
		again, _ := made(t, room)
		for _, rec := range records {
			if e := again.Apply(rec); e != api.OK {
				t.Fatal("Apply", e)
			}
		}
		if !reflect.DeepEqual(allOf(b), allOf(again)) {
			t.Fatal("another book")
		}
		short, _ := made(t, room)
		for _, rec := range b.Records() {
			e := short.Apply(rec)
			if e != api.OK && !gone {
				t.Fatal("Apply of Records", e)
			}
		}
		if !gone && !reflect.DeepEqual(allOf(b), allOf(short)) {
			t.Fatal("another book by Records")
		}
		for _, p := range b.Shown() {
			h, is := b.At(p.Height)
			_, id, e := proof.Right(h.Root, p.Raw, p.Branch, p.At)
			if !is || e != api.OK || id != p.Id || header.Id(h) != p.Head {
				t.Fatal("shown, and not proven")
			}
		}
	}
}
