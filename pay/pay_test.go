package pay

import (
	"bytes"
	"math"
	"math/rand"
	"reflect"
	"slices"
	"testing"

	"scantling/api"
	"scantling/ledger"
	"scantling/sha"
	"scantling/testchain"
	"scantling/tx"
)

func coin(value uint64, n uint32) api.Unspent {
	return api.Unspent{At: api.Place{N: n}, Value: value}
}

func coins(n int, value uint64) []api.Unspent {
	var l []api.Unspent
	for i := range n {
		l = append(l, coin(value, uint32(i)))
	}
	return l
}

func wants(values ...uint64) []Want {
	var l []Want
	for _, v := range values {
		l = append(l, Want{Script: []byte("w"), Value: v})
	}
	return l
}

// TestFee: P31.1.
func TestFee(t *testing.T) {
	for i, c := range []struct {
		ins, outs int
		rate      uint64
		fee       uint64
		e         api.Errno
	}{
		{1, 1, 1, 192, api.OK}, {1, 2, 1, 226, api.OK}, {0, 0, 7, 70, api.OK}, {4096, 4096, MostRate, 745482000000, api.OK}, {4097, 0, 0, 0, api.ErrArg}, {0, 4097, 0, 0, api.ErrArg}, {-1, 0, 0, 0, api.ErrArg}, {0, -1, 0, 0, api.ErrArg}, {0, 0, MostRate + 1, 0, api.ErrArg}, {math.MinInt, math.MaxInt, math.MaxUint64, 0, api.ErrArg}, {3, 3, 0, 0, api.OK},
	} {
		if fee, e := Fee(c.ins, c.outs, c.rate); fee != c.fee || e != c.e {
			t.Error("Fee", i, fee, e)
		}
	}
}

// TestChoose: P31.2.
func TestChoose(t *testing.T) {
	l, change, e := Choose([]api.Unspent{coin(5000, 1), coin(9000, 2)}, wants(8000), 1)
	if e != api.OK || change != 774 || !slices.Equal(l, []api.Unspent{coin(9000, 2)}) {
		t.Error("the example", l, change, e)
	}
	a, b := api.Unspent{At: api.Place{Tx: api.Hash{1}, N: 5}, Value: 10}, api.Unspent{At: api.Place{Tx: api.Hash{0, 9}, N: 7}, Value: 10}
	c, d := api.Unspent{At: api.Place{Tx: api.Hash{0, 9}, N: 8}, Value: 10}, api.Unspent{At: api.Place{Tx: api.Hash{9}}, Value: 11}
	given := []api.Unspent{a, c, d, b}
	l, change, e = Choose(given, wants(41), 0)
	if e != api.OK || change != 0 || !slices.Equal(l, []api.Unspent{d, b, c, a}) || given[0] != a || given[3] != b {
		t.Error("the order", l, e)
	}
	many := wants(make([]uint64, 65)...)
	for i := range many {
		many[i].Value = 1
	}
	long := []Want{{Script: make([]byte, 1001), Value: 1}}
	for i, k := range []struct {
		l      []api.Unspent
		wants  []Want
		rate   uint64
		n      int
		change uint64
		e      api.Errno
	}{
		{coins(1, 192+100), wants(100), 1, 1, 0, api.OK}, {coins(1, 191+100), wants(100), 1, 0, 0, api.ErrSpent}, {coins(1, 226+100+545), wants(100), 1, 1, 0, api.OK}, {coins(1, 226+100+546), wants(100), 1, 1, 546, api.OK}, {coins(2, 170+100), wants(200), 1, 2, 0, api.OK}, {coins(3, 192), wants(100), 1, 0, 0, api.ErrSpent},
		{coins(3, 192+70), wants(100), 1, 2, 0, api.OK}, {nil, wants(1), 0, 0, 0, api.ErrSpent}, {coins(1, 5), nil, 0, 0, 0, api.ErrArg}, {coins(1, 500), many, 0, 0, 0, api.ErrArg}, {coins(1, 64), many[:64], 0, 1, 0, api.OK}, {coins(1, 5), wants(0), 0, 0, 0, api.ErrArg}, {coins(1, 5), wants(1, 0), 0, 0, 0, api.ErrArg},
		{coins(1, api.MaxMoney), wants(api.MaxMoney), 0, 1, 0, api.OK}, {coins(2, api.MaxMoney), wants(api.MaxMoney + 1), 0, 0, 0, api.ErrArg}, {coins(2, api.MaxMoney), wants(api.MaxMoney, 1), 0, 0, 0, api.ErrArg}, {coins(2, 7), wants(math.MaxUint64, 2), 0, 0, 0, api.ErrArg}, {coins(1, api.MaxMoney+1), wants(1), 0, 0, 0, api.ErrArg}, {coins(1, 9), long, 0, 0, 0, api.ErrArg},
		{coins(1, 9), []Want{{Script: make([]byte, 1000), Value: 1}}, 0, 1, 0, api.OK}, {coins(4096, 1), wants(4096), 0, 4096, 0, api.OK}, {coins(4097, 1), wants(1), 0, 0, 0, api.ErrArg}, {append(coins(3, 5), coin(5, 1)), wants(1), 0, 0, 0, api.ErrArg}, {coins(1, 5), wants(1), MostRate + 1, 0, 0, api.ErrArg}, {coins(4096, api.MaxMoney), wants(1), 0, 1, api.MaxMoney - 1, api.OK}, {coins(1, 747), wants(1), 0, 1, 746, api.OK}, {coins(1, 192*MostRate+100), wants(100), MostRate, 1, 0, api.OK},
	} {
		l, change, e := Choose(k.l, k.wants, k.rate)
		if len(l) != k.n || change != k.change || e != k.e {
			t.Error("Choose", i, len(l), change, e)
		}
		if x, me := Make(k.l, k.wants, make([]byte, 1001), k.rate); me != k.e && !(k.e == api.OK && me == api.ErrArg) || !reflect.DeepEqual(x, api.Tx{}) {
			t.Error("Make", i, me)
		}
	}
}

// TestMake: P31.3.
func TestMake(t *testing.T) {
	own, script := []byte("own"), []byte("w")
	l := []api.Unspent{coin(5000, 1), coin(9000, 2)}
	x, e := Make(l, []Want{{script, 8000}, {nil, 5}}, own, 1)
	want := api.Tx{Version: 2, Ins: []api.In{{From: api.Place{N: 2}, Seq: math.MaxUint32}}, Outs: []api.Out{{Value: 8000, Script: []byte("w")}, {Value: 5}, {Value: 735, Script: []byte("own")}}}
	if e != api.OK || !tx.Same(x, want) {
		t.Error("Make", x, e)
	}
	clear(own)
	clear(script)
	if !tx.Same(x, want) {
		t.Error("kept")
	}
	if x, e := Make(l, wants(8000), make([]byte, 1001), 1); e != api.ErrArg || !reflect.DeepEqual(x, api.Tx{}) {
		t.Error("own", e)
	}
	if x, e := Make(l, wants(8000), make([]byte, 1000), 1); e != api.OK || len(x.Outs) != 2 {
		t.Error("own", e)
	}
	if x, e := Make(l, wants(9000), nil, 0); e != api.OK || len(x.Outs) != 1 {
		t.Error("no change", e)
	}
	if x, e := Make(coins(500, 1), wants(500), nil, 0); e != api.ErrMany || !reflect.DeepEqual(x, api.Tx{}) {
		t.Error("too many bytes", e)
	}
	if x, e := Make(coins(2, api.MaxMoney-1), wants(api.MaxMoney), nil, 0); e != api.ErrMany || !reflect.DeepEqual(x, api.Tx{}) {
		t.Error("too much money", e)
	}
}

// TestCheck: P31.4.
func TestCheck(t *testing.T) {
	l := []api.Unspent{coin(50, 1), coin(9, 2)}
	make2 := func(outs []api.Out, from ...uint32) api.Tx {
		var places []api.Place
		for _, n := range from {
			places = append(places, api.Place{N: n})
		}
		return testchain.Spend(outs, places...)
	}
	out := func(v ...uint64) []api.Out {
		var l []api.Out
		for _, x := range v {
			l = append(l, testchain.Out(x, nil))
		}
		return l
	}
	for i, k := range []struct {
		l   []api.Unspent
		t   api.Tx
		fee uint64
		e   api.Errno
	}{
		{l, make2(out(20, 30), 1), 0, api.OK}, {l, make2(out(20, 30), 1, 2), 9, api.OK}, {l, make2(out(51), 1), 0, api.ErrSpent}, {l, make2(out(1), 1, 3), 0, api.ErrSpent}, {nil, make2(out(0), 1), 0, api.ErrSpent}, {l, make2(nil, 1), 0, api.ErrArg}, {l, make2(out(1)), 0, api.ErrArg}, {l, make2(out(1), 1, 1), 0, api.ErrArg}, {append(slices.Clone(l), coin(1, 1)), make2(out(1), 1), 0, api.ErrArg},
		{coins(4097, 1), make2(out(1), 1), 0, api.ErrArg}, {coins(3, api.MaxMoney+1), make2(out(1), 1), 0, api.ErrArg}, {l, make2(out(math.MaxUint64, 2), 1), 0, api.ErrArg}, {l, testchain.Mint(1, out(1)...), 0, api.ErrSpent},
	} {
		if fee, e := Check(k.l, k.t); fee != k.fee || e != k.e {
			t.Error("Check", i, fee, e)
		}
	}
}

// TestAll: P31.5 by chance.
func TestAll(t *testing.T) {
	r := rand.New(rand.NewSource(31))
	own := []byte("own")
	for range 300 {
		c := testchain.New(testchain.Easy())
		for n := range 1 + r.Intn(4) {
			var outs []api.Out
			for range 1 + r.Intn(5) {
				outs = append(outs, testchain.Out(uint64(r.Intn(20000)), own))
			}
			c.Grow(testchain.Mint(uint32(n+1), outs...))
		}
		l := ledger.Unspents(c.Blocks, sha.Sum(own))
		var w []Want
		for range 1 + r.Intn(3) {
			w = append(w, Want{Script: []byte("other"), Value: uint64(1 + r.Intn(9000))})
		}
		rate := uint64(r.Intn(4))
		x, e := Make(l, w, own, rate)
		if e == api.ErrSpent {
			continue
		}
		if e != api.OK {
			t.Fatal("Make", e)
		}
		fee, e := Check(l, x)
		least, _ := Fee(len(x.Ins), len(x.Outs), rate)
		most, _ := Fee(len(x.Ins), len(w)+1, rate)
		if e != api.OK || fee < least || fee >= most+Dust {
			t.Fatal("the fee", fee, least, most, e)
		}
		c.Grow(x)
		if n, e := ledger.Right(c.Blocks); e != api.OK {
			t.Fatal("a next block", n, e)
		}
		if !bytes.Equal(own, []byte("own")) {
			t.Fatal("changed")
		}
	}
}
