package filter

import (
	"bytes"
	"math/big"
	"math/rand"
	"slices"
	"testing"

	"scantling/api"
	"scantling/header"
	"scantling/ledger"
	"scantling/octet"
	"scantling/sha"
	"scantling/testchain"
)

var at, out, mint, spend = testchain.At, testchain.Out, testchain.Mint, testchain.Spend

func items(n int) []api.Hash {
	var l []api.Hash
	for i := range n {
		l = append(l, sha.Sum([]byte{byte(i), byte(i >> 8)}))
	}
	return l
}

// plain is P29.1's number word by word.
func plain(id, item api.Hash, n int) uint64 {
	sum := sha.Sum(append(slices.Clone(id[:]), item[:]...))
	h, _, _ := octet.Take(sum[:], 0, 8)
	x := new(big.Int).SetUint64(h)
	x.Mul(x, big.NewInt(int64(n)))
	x.Mul(x, big.NewInt(784931))
	return x.Rsh(x, 64).Uint64()
}

// written is a filter of numbers, bit by bit as text.
func written(count int, numbers ...uint64) []byte {
	var s []byte
	last := uint64(0)
	for _, n := range numbers {
		d := n - last
		last = n
		s = append(s, bytes.Repeat([]byte{'1'}, int(d>>19))...)
		s = append(s, '0')
		for k := 18; k >= 0; k-- {
			s = append(s, '0'+byte(d>>k&1))
		}
	}
	f := octet.Put(nil, uint64(count), 4)
	for len(s) > 0 {
		x := byte(0)
		for k := range 8 {
			x <<= 1
			if k < len(s) && s[k] == '1' {
				x |= 1
			}
		}
		f = append(f, x)
		s = s[min(8, len(s)):]
	}
	return f
}

// TestNumbers: P29.1 and P29.2.
func TestNumbers(t *testing.T) {
	id := api.Hash{7}
	for _, n := range []int{0, 1, 2, 3, 100, 4096} {
		l := items(n)
		var want []uint64
		for _, x := range l {
			want = append(want, plain(id, x, n))
		}
		slices.Sort(want)
		got, e := Numbers(id, append(slices.Clone(l), l...))
		if e != api.OK || !slices.Equal(got, want) {
			t.Error("Numbers", n, e)
		}
		f, e := Build(id, append(slices.Clone(l), l...))
		if e != api.OK || !bytes.Equal(f, written(n, want...)) {
			t.Error("Build", n, e)
		}
		back, e := Read(f)
		if e != api.OK || !slices.Equal(back, want) {
			t.Error("Read", n, e)
		}
	}
	l := items(4097)
	if got, e := Numbers(id, l); got != nil || e != api.ErrMany {
		t.Error("Numbers of many", e)
	}
	if f, e := Build(id, l); f != nil || e != api.ErrMany {
		t.Error("Build of many", e)
	}
	if f, _ := Build(id, nil); !bytes.Equal(f, make([]byte, 4)) {
		t.Error("of no items")
	}
}

// TestRead: P29.3, bytes that are no filter's.
func TestRead(t *testing.T) {
	two := written(2, 5, 2*Per-1)
	for i, k := range []struct {
		f []byte
		e api.Errno
	}{
		{two, api.OK}, {written(2, 5, 5), api.OK}, {written(2, 0, 0), api.OK}, {written(1, Per-1), api.OK}, {written(1, Per), api.ErrBytes}, {written(2, 2*Per, 2*Per), api.ErrBytes}, {written(2, 5, 2*Per), api.ErrBytes}, {written(0), api.OK}, {append(written(0), 0), api.ErrBytes}, {nil, api.ErrBytes}, {[]byte{0, 0, 0}, api.ErrBytes},
		{append(slices.Clone(two), 0), api.ErrBytes}, {two[:len(two)-1], api.ErrBytes}, {written(2, 5), api.ErrBytes}, {written(1, 5, 6), api.ErrBytes}, {octet.Put(nil, 4097, 4), api.ErrBytes}, {written(4096, make([]uint64, 4096)...), api.OK}, {written(4097, make([]uint64, 4097)...), api.ErrBytes}, {octet.Put(nil, 1<<32-1, 4), api.ErrBytes},
		{append(octet.Put(nil, 1, 4), bytes.Repeat([]byte{255}, 1000)...), api.ErrBytes}, {append(octet.Put(nil, 1, 4), 0, 0, 0), api.OK}, {append(octet.Put(nil, 1, 4), 0, 0, 1), api.ErrBytes}, {append(octet.Put(nil, 1, 4), 0, 0, 8), api.ErrBytes}, {append(octet.Put(nil, 1, 4), 0, 0, 16), api.OK}, {append(octet.Put(nil, 2, 4), 0, 0, 0, 0, 0), api.OK}, {append(octet.Put(nil, 2, 4), 0, 0, 0, 0, 0, 0), api.ErrBytes},
	} {
		l, e := Read(k.f)
		if e != k.e || e != api.OK && l != nil {
			t.Error("Read", i, l, e)
		}
		if is, e := Match(k.f, api.Hash{}, nil); is || e != k.e {
			t.Error("Match", i)
		}
	}
	r := rand.New(rand.NewSource(29))
	for range 3000 {
		f, _ := Build(api.Hash{byte(r.Intn(256))}, items(r.Intn(5)))
		f[r.Intn(len(f))] ^= byte(1 << r.Intn(8))
		if l, e := Read(f); e == api.OK && !bytes.Equal(written(len(l), l...), f) {
			t.Fatal("read in another way", f)
		}
	}
}

// TestMatch: P29.3 and P29.5.
func TestMatch(t *testing.T) {
	id := api.Hash{9}
	l := items(200)
	f, _ := Build(id, l[:100])
	for i, x := range l {
		is, e := Match(f, id, []api.Hash{x})
		if e != api.OK || i < 100 && !is {
			t.Error("Match", i, e)
		}
		_, found := slices.BinarySearch(func() []uint64 { n, _ := Read(f); return n }(), plain(id, x, 100))
		if is != found {
			t.Error("Match of another", i)
		}
	}
	if is, e := Match(f, id, nil); is || e != api.OK {
		t.Error("of nothing")
	}
	if is, _ := Match(f, id, append(slices.Clone(l[150:]), l[3])); !is {
		t.Error("one of several")
	}
	none, _ := Build(id, nil)
	if is, e := Match(none, id, l); is || e != api.OK {
		t.Error("a filter of nothing")
	}
	other := 0
	for _, x := range l[:100] {
		if is, _ := Match(f, api.Hash{8}, []api.Hash{x}); is {
			other++
		}
	}
	if other > 5 {
		t.Error("another id matches", other)
	}
}

// TestItems: P29.4 and P29.5.
func TestItems(t *testing.T) {
	c := testchain.New(testchain.Easy())
	m := mint(1, out(50, []byte("s")), out(1, []byte("w")))
	x := spend([]api.Out{out(30, []byte("s")), out(20, []byte("u"))}, at(m, 0))
	y := spend([]api.Out{out(3, []byte("v")), out(0, []byte("u"))}, at(x, 1), at(m, 1))
	c.Grow(m)
	c.Grow(mint(2, out(1, []byte("a"))), x, y)
	hash := func(s string) api.Hash { return sha.Sum([]byte(s)) }
	for n, want := range map[int][]api.Hash{-1: nil, 0: nil, 1: {hash("s"), hash("w")}, 2: {hash("a"), hash("s"), hash("u"), hash("w"), hash("v")}, 3: nil, 1 << 40: nil} {
		if got := Items(c.Blocks, n); !slices.Equal(got, want) {
			t.Error("Items", n)
		}
	}
	if got := Items(slices.Clip(c.Blocks[:2:2]), 2); got != nil {
		t.Error("no such block")
	}
	// What stands behind, or nowhere, is not found.
	back := []api.Block{{Txs: []api.Tx{y, x, m, spend([]api.Out{out(1, []byte("z"))}, api.Place{}, at(m, 9), at(m, 1<<32-1))}}}
	if got := Items(back, 0); !slices.Equal(got, []api.Hash{hash("v"), hash("u"), hash("s"), hash("w"), hash("z")}) {
		t.Error("an order", len(got))
	}
	for height, b := range c.Blocks {
		id := header.Id(b.Header)
		f, e := Build(id, Items(c.Blocks, height))
		if e != api.OK {
			t.Fatal(e)
		}
		for _, s := range []string{"s", "u", "v", "w", "a"} {
			in := slices.ContainsFunc(ledger.History(c.Blocks, hash(s)), func(e api.Entry) bool { return e.Height == height })
			if is, _ := Match(f, id, []api.Hash{hash(s)}); in && !is {
				t.Error("P29.5", height, s)
			}
		}
	}
}
