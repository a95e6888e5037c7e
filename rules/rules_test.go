package rules

import (
	"math"
	model "math/big"
	"math/rand"
	"slices"
	"testing"

	"scantling/api"
	"scantling/big"
	"scantling/header"
	"scantling/target"
)

func easy() api.Params {
	return api.Params{Limit: 0x207fffff, Interval: 4, Spacing: 10, First: api.Header{Bits: 0x207fffff, Time: 100}}
}

func times(bits uint32, l ...uint32) []api.Header {
	var out []api.Header
	for _, t := range l {
		out = append(out, api.Header{Bits: bits, Time: t})
	}
	return out
}

// mined finds a nonce with which h has its work, or (with not) has it not.
func mined(h api.Header, not bool) api.Header {
	t, _ := target.Of(h.Bits)
	for target.Meets(header.Id(h), t) == not {
		h.Nonce++
	}
	return h
}

// TestMay: P13.1.
func TestMay(t *testing.T) {
	first := header.Id(easy().First)
	for i, c := range []struct {
		turn func(p *api.Params)
		may  bool
	}{
		{func(p *api.Params) {}, true}, {func(p *api.Params) { p.Limit, p.First.Bits = 0, 0 }, false}, {func(p *api.Params) { p.Limit, p.First.Bits = 0x03000005, 0x03000005 }, false},
		{func(p *api.Params) { p.Limit, p.First.Bits = 0x01050000, 0x01050000 }, true}, {func(p *api.Params) { p.Limit, p.First.Bits = 0x20ffffff, 0x20ffffff }, false}, {func(p *api.Params) { p.Limit, p.First.Bits = 0x2100ffff, 0x2100ffff }, true},
		{func(p *api.Params) { p.Interval = 2 }, true}, {func(p *api.Params) { p.Interval = 1 }, false}, {func(p *api.Params) { p.Interval = 2016 }, true}, {func(p *api.Params) { p.Interval = 2017 }, false}, {func(p *api.Params) { p.Interval = -4 }, false},
		{func(p *api.Params) { p.Spacing = 1 }, true}, {func(p *api.Params) { p.Spacing = 0 }, false}, {func(p *api.Params) { p.Spacing = 3600 }, true}, {func(p *api.Params) { p.Spacing = 3601 }, false}, {func(p *api.Params) { p.First.Bits-- }, false},
		{func(p *api.Params) { p.Points = []api.Point{{Height: 0, Hash: first}, {Height: 1}, {Height: 5}} }, true}, {func(p *api.Params) { p.Points = []api.Point{{Height: 0}} }, false}, {func(p *api.Params) { p.Points = []api.Point{{Height: -1}} }, false},
		{func(p *api.Params) { p.Points = []api.Point{{Height: 3}, {Height: 3}} }, false}, {func(p *api.Params) { p.Points = []api.Point{{Height: 3}, {Height: 2}} }, false},
	} {
		p := easy()
		c.turn(&p)
		if May(p) != c.may {
			t.Error("May", i)
		}
		if !c.may && (Bits(p, times(7, 1, 2)) != 0 || Right(p, nil, api.Header{}) != api.ErrArg) {
			t.Error("of what may not be", i)
		}
	}
}

// TestBits: P13.2, by hand.
func TestBits(t *testing.T) {
	p := easy()
	const limit = 0x207fffff
	for i, c := range []struct {
		l    []api.Header
		want uint32
	}{
		{nil, 0}, {times(limit, 0), limit}, {times(limit, 0, 1), limit}, {times(limit, 0, 1, 2), limit}, {times(limit, 0, 1, 2, 3), 0x201fffff}, {times(limit, 0, 1, 2, 20), 0x203fffff}, {times(limit, 0, 1, 2, 40), limit}, {times(limit, 0, 1, 2, 4000), limit},
		{times(0x201fffff, 0, 1, 2, 4000), 0x207ffffc}, {times(0x1f00ffff, 0, 1, 2, 80), 0x1f01fffe}, {times(0x1f00ffff, 9, 1, 2, 0), 0x1e3fffc0}, {times(77, 1, 2, 3), 77}, {times(77, 1, 2, 3, 4), 0x01010000}, {times(0, 1, 2, 3, 4), 0x01010000}, {times(0xffffffff, 1, 2, 3, 4), 0x01010000},
		{times(0x01010000, 1, 2, 3, 4), 0x01010000}, {times(0x01010000, 1, 2, 3, 84), 0x01020000}, {times(limit, 5, 5, 5, 0, 1, 2, 10), limit}, {times(limit, 5, 5, 5, 5, 0, 1, 2, 20), 0x203fffff}, {times(limit, 0, 0, 0, math.MaxUint32), limit}, {times(limit, math.MaxUint32, 0, 0, 0), 0x201fffff},
	} {
		if b := Bits(p, c.l); b != c.want {
			t.Errorf("Bits %d: %x, not %x", i, b, c.want)
		}
	}
	p.Limit, p.First.Bits = 0x2100ffff, 0x2100ffff
	if b := Bits(p, times(0x2100ffff, 0, 0, 0, 160)); b != 0x2100ffff {
		t.Errorf("beyond all: %x", b)
	}
	if b := Bits(p, times(0x203fffff, 0, 0, 0, 160)); b != 0x2100ffff {
		t.Errorf("just beyond the limit: %x", b)
	}
}

func far(a api.Big) *model.Int {
	n := new(model.Int)
	for i := range 4 {
		n.Lsh(n, 64).Add(n, new(model.Int).SetUint64(a[3-i]))
	}
	return n
}

// TestSpans: P13.2 and P13.5, against whole numbers of any size.
func TestSpans(t *testing.T) {
	r := rand.New(rand.NewSource(13))
	for range 3000 {
		limit := uint32(1+r.Intn(33))<<24 | uint32(0x8000+r.Intn(0x7f0000))
		p := api.Params{Limit: limit, Interval: 2 + r.Intn(20), Spacing: uint32(1 + r.Intn(3600)), First: api.Header{Bits: limit}}
		if !May(p) {
			continue
		}
		most, _ := target.Of(limit)
		bits := target.Compact(big.Down(most, r.Intn(100)))
		l := make([]api.Header, p.Interval*(1+r.Intn(3)))
		for i := range l {
			l[i] = api.Header{Bits: bits, Time: uint32(r.Intn(8 * p.Interval * int(p.Spacing)))}
		}
		whole := int64(p.Interval) * int64(p.Spacing)
		span := int64(l[len(l)-1].Time) - int64(l[len(l)-p.Interval].Time)
		span = max(span, whole/4)
		span = min(span, whole*4)
		old, _ := target.Of(bits)
		n := new(model.Int).Mul(far(old), model.NewInt(span))
		n.Div(n, model.NewInt(whole))
		if n.Sign() == 0 {
			n.SetInt64(1)
		}
		if n.Cmp(far(most)) > 0 {
			n = far(most)
		}
		got, is := target.Of(Bits(p, l))
		if !is || far(got).Cmp(n) > 0 || target.Compact(got) != Bits(p, l) {
			t.Fatalf("Bits of %x: %x", bits, got)
		}
		exact := api.Big{}
		for i := range 4 {
			exact[i] = new(model.Int).And(new(model.Int).Rsh(n, uint(64*i)), new(model.Int).SetUint64(math.MaxUint64)).Uint64()
		}
		if target.Compact(exact) != Bits(p, l) {
			t.Fatalf("Bits of %x: %x, not %x", bits, Bits(p, l), target.Compact(exact))
		}
	}
}

// TestMedian: P13.3.
func TestMedian(t *testing.T) {
	for i, c := range []struct {
		l    []uint32
		want uint32
	}{{nil, 0}, {[]uint32{5}, 5}, {[]uint32{5, 1}, 5}, {[]uint32{5, 1, 9, 7}, 7}, {[]uint32{0, 0, 1, 2, 3, 4, 5, 6, 7, 8, 9, 10}, 5}, {[]uint32{99, 99, 99, 99, 99, 99, 1, 2, 3, 4, 5, 6, 7, 8, 9, 10, 11}, 6}, {[]uint32{1, math.MaxUint32, 1}, 1}} {
		l := times(0, c.l...)
		kept := slices.Clone(l)
		if m := Median(l); m != c.want || !slices.Equal(l, kept) {
			t.Error("Median", i, m)
		}
	}
}

// TestRight: P13.4, each error, and which goes ahead.
func TestRight(t *testing.T) {
	p := easy()
	l := []api.Header{p.First}
	h := mined(api.Header{Prev: header.Id(p.First), Bits: p.Limit, Time: 101}, false)
	bad := p
	bad.Points = []api.Point{{Height: 1, Hash: api.Hash{1}}}
	good := p
	good.Points = []api.Point{{Height: 1, Hash: header.Id(h)}, {Height: 2}}
	for i, c := range []struct {
		p    api.Params
		l    []api.Header
		h    api.Header
		want api.Errno
	}{
		{p, l, h, api.OK}, {good, l, h, api.OK}, {bad, l, h, api.ErrPoint}, {api.Params{}, nil, h, api.ErrArg}, {p, nil, h, api.ErrPrev}, {p, []api.Header{h}, h, api.ErrPrev},
		{p, l, mined(api.Header{Prev: h.Prev, Bits: p.Limit - 1, Time: 101}, false), api.ErrBits}, {bad, l, mined(api.Header{Prev: h.Prev, Bits: p.Limit, Time: 100}, true), api.ErrWork}, {bad, l, mined(api.Header{Prev: h.Prev, Bits: p.Limit, Time: 100}, false), api.ErrTime},
		{p, l, mined(api.Header{Prev: h.Prev, Bits: p.Limit, Time: 100}, false), api.ErrTime}, {p, l, mined(api.Header{Bits: p.Limit - 1, Time: 100}, true), api.ErrPrev}, {p, l, mined(api.Header{Prev: h.Prev, Bits: p.Limit - 1, Time: 100}, true), api.ErrBits},
		{p, l, mined(api.Header{Prev: h.Prev, Bits: p.Limit, Time: math.MaxUint32}, false), api.OK},
	} {
		if e := Right(c.p, c.l, c.h); e != c.want {
			t.Error("Right", i, e, c.want)
		}
	}
	// Four headers, and the work behind them.
	for len(l) < 4 {
		l = append(l, mined(api.Header{Prev: header.Id(l[len(l)-1]), Bits: p.Limit, Time: 100 + uint32(len(l))}, false))
	}
	if e := Right(p, l, mined(api.Header{Prev: header.Id(l[3]), Bits: 0x201fffff, Time: 104}, false)); e != api.OK {
		t.Error("harder", e)
	}
	if e := Right(p, l, mined(api.Header{Prev: header.Id(l[3]), Bits: p.Limit, Time: 104}, false)); e != api.ErrBits {
		t.Error("as ahead", e)
	}
}
