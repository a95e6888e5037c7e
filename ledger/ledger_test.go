package ledger

import (
	"math"
	"slices"
	"testing"

	"scantling/api"
	"scantling/header"
	"scantling/merkle"
	"scantling/sha"
	"scantling/testchain"
	"scantling/tx"
)

var at, out, mint, spend = testchain.At, testchain.Out, testchain.Mint, testchain.Spend

// block makes one behind another, without work.
func block(l []api.Block, txs ...api.Tx) api.Block {
	var ids []api.Hash
	for _, t := range txs {
		ids = append(ids, tx.Id(t))
	}
	return api.Block{Header: api.Header{Prev: header.Id(l[len(l)-1].Header), Root: merkle.Root(ids...)}, Txs: txs}
}

// example is the chapter's.
func example() (l []api.Block, c, t api.Tx) {
	c = mint(1, out(50, []byte("s")))
	t = spend([]api.Out{out(30, []byte("s")), out(20, []byte("u"))}, at(c, 0))
	l = []api.Block{{Header: api.Header{Version: 9}}}
	l = append(l, block(l, c))
	l = append(l, block(l, mint(2, out(7, []byte("v"))), t))
	return l, c, t
}

// TestExample: P15.2.
func TestExample(t *testing.T) {
	l, c, x := example()
	s, u := sha.Sum([]byte("s")), sha.Sum([]byte("u"))
	if n, e := Right(l); n != 0 || e != api.OK {
		t.Error("Right", n, e)
	}
	if h := History(l, s); !slices.Equal(h, []api.Entry{{Height: 1, Tx: tx.Id(c)}, {Height: 2, Tx: tx.Id(x)}}) {
		t.Error("History", h)
	}
	if h := Unspents(l, s); !slices.Equal(h, []api.Unspent{{At: at(x, 0), Value: 30, Height: 2}}) {
		t.Error("Unspents", h)
	}
	if Balance(l, u) != 20 || Balance(l, s) != 30 || Balance(l[:2], s) != 50 || Balance(l, api.Hash{}) != 0 || Balance(nil, s) != 0 {
		t.Error("Balance")
	}
	if h := History(l, u); !slices.Equal(h, []api.Entry{{Height: 2, Tx: tx.Id(x)}}) {
		t.Error("History of u", h)
	}
	if History(l, api.Hash{}) != nil || len(Unspents(l[:2], u)) != 0 || !slices.Equal(History(l[:2], s), History(l, s)[:1]) {
		t.Error("P15.3")
	}
	// In one block: an output that is there at once, and gone at once; one output of several.
	y := spend([]api.Out{out(1, []byte("s")), out(0, []byte("s")), out(2, []byte("t"))}, at(x, 0))
	z := spend([]api.Out{out(1, []byte("w"))}, at(y, 0))
	l = append(l, block(l, mint(3, out(5, []byte("s"))), y, z))
	if n, e := Right(l); n != 0 || e != api.OK {
		t.Error("Right", n, e)
	}
	if h := History(l, s)[2:]; !slices.Equal(h, []api.Entry{{Height: 3, Tx: tx.Id(l[3].Txs[0])}, {Height: 3, Tx: tx.Id(y)}, {Height: 3, Tx: tx.Id(z)}}) {
		t.Error("History in one block", h)
	}
	if h := Unspents(l, s); !slices.Equal(h, []api.Unspent{{At: at(l[3].Txs[0], 0), Value: 5, Height: 3}, {At: at(y, 1), Height: 3}}) {
		t.Error("Unspents in one block", h)
	}
}

// TestRight: P15.1, each error, and which goes ahead.
func TestRight(t *testing.T) {
	l, c, x := example()
	coinbase := mint(3, out(0, nil))
	many := []api.Tx{coinbase}
	for range api.MaxTxs {
		from := at(many[len(many)-1], 0)
		many = append(many, spend([]api.Out{out(0, nil)}, from))
	}
	noOuts := spend(nil, at(x, 0))
	wrongRoot := block(l, coinbase)
	wrongRoot.Header.Root[0] ^= 1
	noPrev := block(l, coinbase)
	noPrev.Header.Prev[0] ^= 1
	noPrev.Txs = nil
	few := spend([]api.Out{out(31, nil)}, at(x, 0))
	none := spend([]api.Out{out(0, nil)}, at(x, 2))
	for i, k := range []struct {
		b api.Block
		e api.Errno
	}{
		{block(l, coinbase), api.OK}, {noPrev, api.ErrPrev}, {block(l), api.ErrMany}, {block(l, many...), api.ErrMany}, {block(l, many[:256]...), api.OK}, {wrongRoot, api.ErrProof},
		{block(l, noOuts), api.ErrArg}, {block(l, coinbase, noOuts), api.ErrArg}, {block(l, spend([]api.Out{out(1, nil)}, at(x, 0))), api.ErrArg}, {block(l, coinbase, mint(4, out(0, nil))), api.ErrArg},
		{block(l, c), api.ErrSpent}, {block(l, coinbase, x), api.ErrSpent}, {block(l, coinbase, spend([]api.Out{out(1, nil)}, at(c, 0))), api.ErrSpent}, {block(l, coinbase, none), api.ErrSpent}, {block(l, coinbase, few), api.ErrSpent},
		{block(l, coinbase, spend([]api.Out{out(0, nil)}, api.Place{N: math.MaxUint32}, at(x, 0))), api.ErrSpent}, {block(l, coinbase, spend([]api.Out{out(30, nil)}, at(x, 0))), api.OK}, {block(l, coinbase, spend([]api.Out{out(0, nil)}, at(coinbase, 0))), api.OK},
		{block(l, coinbase, many[2], many[1]), api.ErrSpent}, {block(l, coinbase, few, noOuts), api.ErrSpent}, {block(l, coinbase, noOuts, few), api.ErrArg}, {block(l, coinbase, many[1], many[1]), api.ErrSpent},
		{block(l, coinbase, spend([]api.Out{out(1, nil)}, at(x, 0)), spend([]api.Out{out(2, nil)}, at(x, 0))), api.ErrSpent}, {block(l, mint(9, out(api.MaxMoney, nil))), api.OK}, {block(l, mint(9, out(api.MaxMoney+1, nil))), api.ErrArg},
	} {
		n, e := Right(append(slices.Clone(l), k.b))
		want := 0
		if k.e != api.OK {
			want = 3
		}
		if n != want || e != k.e {
			t.Error("Right", i, n, e, k.e)
		}
		if n, e := Right(append(append(slices.Clone(l), k.b), api.Block{})); k.e != api.OK && (n != 3 || e != k.e) || k.e == api.OK && (n != 4 || e != api.ErrPrev) {
			t.Error("the first block that is wrong", i)
		}
		History(append(slices.Clone(l), k.b), sha.Sum(nil))
		Unspents(append(slices.Clone(l), k.b), sha.Sum(nil))
	}
	// A first block with transactions is asked for all but its Prev.
	first := block(l, coinbase)
	if n, e := Right([]api.Block{first}); n != 0 || e != api.OK {
		t.Error("a first block", e)
	}
	if n, e := Right([]api.Block{wrongRoot}); n != 0 || e != api.ErrProof {
		t.Error("a first block of another root", e)
	}
	if n, e := Right([]api.Block{{Header: api.Header{Prev: api.Hash{2}, Root: api.Hash{1}}}}); n != 0 || e != api.OK {
		t.Error("a first block without transactions, whatever its header", e)
	}
	if n, e := Right(nil); n != 0 || e != api.OK {
		t.Error("none")
	}
	if n, e := Right([]api.Block{{}, {Header: api.Header{Prev: header.Id(api.Header{})}}}); n != 1 || e != api.ErrMany {
		t.Error("a second one without transactions", n, e)
	}
}
