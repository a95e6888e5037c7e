package tx

import (
	"bytes"
	"math"
	"math/rand"
	"reflect"
	"testing"

	"scantling/api"
	"scantling/sha"
)

// mint is the chapter's example.
func mint() api.Tx {
	return api.Tx{Version: 1, Ins: []api.In{{From: api.Place{N: math.MaxUint32}, Seq: math.MaxUint32}}, Outs: []api.Out{{Value: 5, Script: []byte{0x51}}}}
}

func with(t api.Tx, turn func(*api.Tx)) api.Tx {
	t, _ = Get(Put(t))
	turn(&t)
	return t
}

func ins(n int) []api.In {
	var l []api.In
	for i := range n {
		l = append(l, api.In{From: api.Place{N: uint32(i)}})
	}
	return l
}

// TestPut: P9.1.
func TestPut(t *testing.T) {
	want := append([]byte{1, 0, 0, 0, 1}, make([]byte, 32)...)
	want = append(want, 255, 255, 255, 255, 0, 255, 255, 255, 255, 1, 5, 0, 0, 0, 0, 0, 0, 0, 1, 0x51)
	bare := append(bytes.Clone(want), 0, 0, 0, 0)
	m := mint()
	if !bytes.Equal(Put(m), bare) || !bytes.Equal(Bare(m), bare) || len(bare) != 61 || Id(m) != sha.Twice(bare) {
		t.Error("Put")
	}
	m.Ins[0].Witness = [][]byte{{}}
	long := append([]byte{1, 0, 0, 0, 0, 1}, want[4:]...)
	long = append(long, 1, 0, 0, 0, 0, 0)
	if !bytes.Equal(Put(m), long) || !bytes.Equal(Bare(m), bare) || len(long) != 65 || Id(m) != sha.Twice(bare) {
		t.Error("with a witness")
	}
	if g, e := Get(long); e != api.OK || !Same(g, m) || len(g.Ins[0].Witness) != 1 {
		t.Error("Get of it")
	}
	if b := Put(api.Tx{}); !bytes.Equal(b, make([]byte, 10)) {
		t.Error("Put of nothing")
	}
	// Counts of all lengths.
	for _, n := range []int{252, 253, 65535, 65536} {
		head := map[int][]byte{252: {252}, 253: {253, 253, 0}, 65535: {253, 255, 255}, 65536: {254, 0, 0, 1, 0}}[n]
		b := Put(api.Tx{Outs: []api.Out{{Script: make([]byte, n)}}})
		if !bytes.Equal(b[14:14+len(head)], head) || len(b) != 14+len(head)+n+4 {
			t.Error("count", n)
		}
		b = Put(api.Tx{Ins: make([]api.In, n)})
		if !bytes.Equal(b[4:4+len(head)], head) {
			t.Error("count of inputs", n)
		}
	}
}

// TestMay: P9.3.
func TestMay(t *testing.T) {
	m := mint()
	if !May(m) || !Mint(m) {
		t.Error("the example")
	}
	sized := func(n int) api.Tx {
		return with(m, func(x *api.Tx) { x.Outs[0].Script = make([]byte, n) })
	}
	twice := with(m, func(x *api.Tx) { x.Ins = append(x.Ins, x.Ins[0]) })
	for i, c := range []struct {
		t   api.Tx
		may bool
	}{
		{api.Tx{}, false}, {with(m, func(x *api.Tx) { x.Ins = nil }), false}, {with(m, func(x *api.Tx) { x.Outs = nil }), false}, {twice, false},
		{with(m, func(x *api.Tx) { x.Ins = append(x.Ins, api.In{From: api.Place{N: 1}}) }), true},
		{with(m, func(x *api.Tx) { x.Ins = append(x.Ins, api.In{From: api.Place{Tx: api.Hash{1}, N: math.MaxUint32}}) }), true},
		{with(m, func(x *api.Tx) { x.Outs[0].Value = api.MaxMoney }), true}, {with(m, func(x *api.Tx) { x.Outs[0].Value = api.MaxMoney + 1 }), false},
		{with(m, func(x *api.Tx) { x.Outs = []api.Out{{Value: api.MaxMoney}, {Value: 1}} }), false}, {with(m, func(x *api.Tx) { x.Outs = []api.Out{{Value: api.MaxMoney}, {}} }), true},
		{with(m, func(x *api.Tx) { x.Outs = []api.Out{{Value: 1 << 63}, {Value: 1 << 63}} }), false}, {with(m, func(x *api.Tx) { x.Outs = []api.Out{{Value: 1}, {Value: math.MaxUint64}} }), false},
		{sized(api.MaxTx - 62), true}, {sized(api.MaxTx - 61), false},
		{with(m, func(x *api.Tx) { x.Ins = ins(300) }), true}, {with(m, func(x *api.Tx) { x.Ins = ins(500) }), false},
		{with(m, func(x *api.Tx) { x.Ins[0].Witness = [][]byte{make([]byte, api.MaxTx)} }), false},
	} {
		if May(c.t) != c.may {
			t.Error("May", i)
		}
		g, e := Get(Put(c.t))
		switch {
		case c.may && (e != api.OK || !Same(g, c.t)):
			t.Error("Get of what may be", i)
		case !c.may && len(Put(c.t)) > api.MaxTx && e != api.ErrMany:
			t.Error("Get of many", i)
		case !c.may && len(Put(c.t)) <= api.MaxTx && e != api.ErrBytes:
			t.Error("Get of what may not be", i)
		}
		if !c.may && !reflect.DeepEqual(g, api.Tx{}) {
			t.Error("an error, and more", i)
		}
	}
	for i, c := range []api.Tx{{}, twice, with(m, func(x *api.Tx) { x.Ins[0].From.N-- }), with(m, func(x *api.Tx) { x.Ins[0].From.Tx[31] = 1 })} {
		if Mint(c) {
			t.Error("Mint", i)
		}
	}
	if !Mint(api.Tx{Ins: []api.In{{From: api.Place{N: math.MaxUint32}, Script: []byte{1}, Seq: 4}}}) {
		t.Error("Mint of any other fields")
	}
}

// TestGet: P9.2, bytes in other ways.
func TestGet(t *testing.T) {
	bare := Put(mint())
	for n := range bare {
		if g, e := Get(bare[:n]); e != api.ErrBytes || !reflect.DeepEqual(g, api.Tx{}) {
			t.Error("cut at", n)
		}
	}
	none := append([]byte{1, 0, 0, 0, 0, 1}, bare[4:57]...)
	none = append(none, 0, 0, 0, 0, 0)
	wide := append([]byte{1, 0, 0, 0, 0xfd, 1, 0}, bare[5:]...)
	marked := bytes.Clone(none)
	marked[57+2] = 1 // a witness of one item
	marked = append(marked[:60], append([]byte{0}, marked[60:]...)...)
	if g, e := Get(marked); e != api.OK || len(g.Ins[0].Witness) != 1 {
		t.Error("the example with a witness")
	}
	other := bytes.Clone(marked)
	other[5] = 2
	huge := append([]byte{1, 0, 0, 0}, bytes.Repeat([]byte{255}, 9)...)
	for i, b := range [][]byte{none, wide, other, huge, append(bytes.Clone(bare), 0), nil, {0}, make([]byte, 10), make([]byte, api.MaxTx), {1, 0, 0, 0, 0}, {1, 0, 0, 0, 0, 1, 0, 0, 0, 0, 0, 0}} {
		if g, e := Get(b); e != api.ErrBytes || !reflect.DeepEqual(g, api.Tx{}) {
			t.Error("Get", i, e)
		}
	}
	if len(none) != 64 {
		t.Error("not the example")
	}
	if _, e := Get(make([]byte, api.MaxTx+1)); e != api.ErrMany {
		t.Error("Get of many")
	}
	g, _ := Get(bare)
	if g.Ins[0].Script != nil || g.Ins[0].Witness != nil {
		t.Error("nothing is none")
	}
	g.Outs[0].Script[0] = 7
	if bare[56] != 0x51 {
		t.Error("shared")
	}
}

// any makes a transaction that may be, by chance.
func any(r *rand.Rand) api.Tx {
	some := func(n int) []byte {
		b := make([]byte, r.Intn(n))
		r.Read(b)
		return b
	}
	t := api.Tx{Version: r.Uint32(), Lock: r.Uint32(), Ins: ins(1 + r.Intn(4))}
	for i := range t.Ins {
		t.Ins[i].Script, t.Ins[i].Seq = some(300), r.Uint32()
		for range r.Intn(3) {
			t.Ins[i].Witness = append(t.Ins[i].Witness, some(5))
		}
	}
	for range 1 + r.Intn(4) {
		t.Outs = append(t.Outs, api.Out{Value: uint64(r.Int63n(1 << 40)), Script: some(30)})
	}
	return t
}

// TestBack: P9.4.
func TestBack(t *testing.T) {
	r := rand.New(rand.NewSource(9))
	for range 2000 {
		a := any(r)
		b := Put(a)
		g, e := Get(b)
		if e != api.OK || !Same(a, g) || !bytes.Equal(Put(g), b) {
			t.Fatal("back", a)
		}
		plain := with(a, func(x *api.Tx) {
			for i := range x.Ins {
				x.Ins[i].Witness = nil
			}
		})
		if Id(plain) != Id(a) || !bytes.Equal(Put(plain), Bare(a)) {
			t.Fatal("the id hangs on a witness")
		}
		b[r.Intn(len(b))] ^= byte(1 + r.Intn(255))
		if h, e := Get(b); e == api.OK && (!bytes.Equal(Put(h), b) || Same(h, a) || !May(h)) {
			t.Fatal("turned", a)
		}
	}
}

// TestSame: P9.3, each field.
func TestSame(t *testing.T) {
	a := any(rand.New(rand.NewSource(3)))
	a.Ins = append(ins(1), a.Ins...)
	a.Ins[0].From.Tx[0] = 9
	for i, turn := range []func(*api.Tx){
		func(x *api.Tx) { x.Version++ }, func(x *api.Tx) { x.Lock++ }, func(x *api.Tx) { x.Ins = x.Ins[1:] }, func(x *api.Tx) { x.Outs = x.Outs[1:] }, func(x *api.Tx) { x.Ins[0].From.N += 9 }, func(x *api.Tx) { x.Ins[0].From.Tx[0]++ },
		func(x *api.Tx) { x.Ins[0].Seq++ }, func(x *api.Tx) { x.Ins[0].Script = append(x.Ins[0].Script, 1) }, func(x *api.Tx) { x.Ins[0].Witness = append(x.Ins[0].Witness, nil) }, func(x *api.Tx) { x.Outs[0].Value++ }, func(x *api.Tx) { x.Outs[0].Script = append(x.Outs[0].Script, 1) },
	} {
		b, _ := Get(Put(a))
		turn(&b)
		if Same(a, b) || i != 8 && bytes.Equal(Bare(a), Bare(b)) {
			t.Error("Same", i)
		}
	}
	x, y := mint(), mint()
	x.Ins[0].Script, x.Ins[0].Witness = []byte{}, [][]byte{}
	if !Same(x, y) || !Same(api.Tx{}, api.Tx{Ins: []api.In{}, Outs: []api.Out{}}) {
		t.Error("nothing is none")
	}
}
