package forest

import (
	"math"
	"math/rand"
	"slices"
	"testing"

	"scantling/api"
	"scantling/big"
	"scantling/header"
	"scantling/rules"
	"scantling/target"
)

func easy() api.Params {
	return api.Params{Limit: 0x207fffff, Interval: 10, Spacing: 10, First: api.Header{Bits: 0x207fffff, Time: 100}}
}

// mined is a header behind others, unlike others of another version.
func mined(p api.Params, l []api.Header, version uint32, step uint32) api.Header {
	last := l[len(l)-1]
	h := api.Header{Version: version, Prev: header.Id(last), Time: last.Time + step, Bits: rules.Bits(p, l)}
	t, _ := target.Of(h.Bits)
	for !target.Meets(header.Id(h), t) {
		h.Nonce++
	}
	return h
}

func made(t *testing.T, p api.Params, room int) *Forest {
	t.Helper()
	f, e := New(p, room)
	if e != api.OK {
		t.Fatal("New", e)
	}
	return f
}

// TestNew: P14.1.
func TestNew(t *testing.T) {
	for _, room := range []int{0, -1, api.MaxForks + 1, math.MaxInt} {
		if f, e := New(easy(), room); f != nil || e != api.ErrArg {
			t.Error("room", room)
		}
	}
	if f, e := New(api.Params{}, 1); f != nil || e != api.ErrArg {
		t.Error("parameters")
	}
	made(t, easy(), api.MaxForks)
	f := made(t, easy(), 1)
	id, height := f.Best()
	all, forks := f.Size()
	h, best, is := f.Find(id)
	if id != header.Id(easy().First) || height != 0 || all != 1 || forks != 0 || !is || !best || h != 0 || f.Work() != big.Of(2) || !slices.Equal(f.Chain(), []api.Header{easy().First}) {
		t.Error("a new one")
	}
}

// TestExample: the chapter's.
func TestExample(t *testing.T) {
	p := easy()
	f := made(t, p, 1)
	base := []api.Header{p.First}
	a, b := mined(p, base, 1, 10), mined(p, base, 2, 10)
	add := func(h api.Header, height int, gone ...api.Hash) {
		t.Helper()
		if n, g, e := f.Add(h); n != height || e != api.OK || !slices.Equal(g, gone) {
			t.Error("Add", n, g, e)
		}
	}
	best := func(h api.Header) {
		t.Helper()
		if id, _ := f.Best(); id != header.Id(h) {
			t.Error("another best one")
		}
	}
	add(a, 1)
	add(b, 1)
	best(a)
	c := mined(p, []api.Header{p.First, b}, 3, 10)
	add(c, 2)
	best(c)
	if n, on, is := f.Find(header.Id(a)); n != 1 || on || !is {
		t.Error("a fork")
	}
	d := mined(p, []api.Header{p.First, a}, 4, 10)
	add(d, 2, header.Id(d))
	best(c)
	if n, on, is := f.Find(header.Id(d)); n != 0 || on || is {
		t.Error("gone")
	}
	if all, forks := f.Size(); all != 4 || forks != 1 {
		t.Error("Size")
	}
	add(a, 1)
	add(p.First, 0)
	add(d, 2, header.Id(d))
	for n, want := range []api.Header{p.First, b, c} {
		if h, is := f.At(n); h != want || !is {
			t.Error("At", n)
		}
	}
	for _, n := range []int{-1, 3, math.MaxInt, math.MinInt} {
		if h, is := f.At(n); h != (api.Header{}) || is {
			t.Error("At", n)
		}
	}
	// What is behind what is gone follows nothing.
	e1 := mined(p, []api.Header{p.First, a, d}, 5, 10)
	if n, g, e := f.Add(e1); n != 0 || g != nil || e != api.ErrPrev {
		t.Error("behind a gone one")
	}
	late := c
	late.Time = 0
	if n, g, e := f.Add(late); n != 0 || g != nil || e == api.OK {
		t.Error("a wrong one", e)
	}
	if all, forks := f.Size(); all != 4 || forks != 1 {
		t.Error("turned")
	}
}

// TestKept: R3, the points are the forest's own; and they count.
func TestKept(t *testing.T) {
	p := easy()
	a := mined(p, []api.Header{p.First}, 1, 10)
	p.Points = []api.Point{{Height: 1, Hash: header.Id(a)}}
	f := made(t, p, 1)
	p.Points[0].Hash = api.Hash{}
	if _, _, e := f.Add(mined(p, []api.Header{p.First}, 2, 10)); e != api.ErrPoint {
		t.Error("another header than a point's", e)
	}
	if _, _, e := f.Add(a); e != api.OK {
		t.Error("the points are kept", e)
	}
}

// TestReorg: several are gone at once, leaves first as they were added.
func TestReorg(t *testing.T) {
	p := easy()
	f := made(t, p, 3)
	one, two := []api.Header{p.First}, []api.Header{p.First}
	for i := range 3 {
		one = append(one, mined(p, one, 1, 10))
		two = append(two, mined(p, two, 2, 10))
		_, _, e := f.Add(one[i+1])
		_, _, e2 := f.Add(two[i+1])
		if e != api.OK || e2 != api.OK {
			t.Fatal(e, e2)
		}
	}
	x := mined(p, one[:2], 3, 10)
	if _, gone, _ := f.Add(x); !slices.Equal(gone, []api.Hash{header.Id(two[3])}) {
		t.Error("the first leaf", gone)
	}
	f.Add(two[3]) // added again behind x: x is the first leaf now
	if _, _, is := f.Find(header.Id(x)); is {
		t.Error("x is gone")
	}
	four := mined(p, two, 2, 10)
	_, gone, e := f.Add(four)
	if id, n := f.Best(); e != api.OK || id != header.Id(four) || n != 4 || len(gone) != 0 || !slices.Equal(f.Chain(), append(slices.Clone(two), four)) {
		t.Error("the other chain", gone, e)
	}
	if all, forks := f.Size(); all != 8 || forks != 3 {
		t.Error("Size", all, forks)
	}
	y := mined(p, two[:3], 4, 10)
	if _, gone, _ := f.Add(y); !slices.Equal(gone, []api.Hash{header.Id(one[3])}) {
		t.Error("the old chain's leaf", gone)
	}
	z := mined(p, one[:2], 5, 10)
	if _, gone, _ := f.Add(z); !slices.Equal(gone, []api.Hash{header.Id(one[2])}) {
		t.Error("then the one ahead", gone)
	}
}

// TestWork: a shorter chain of more work is the better one; P14.3.
func TestWork(t *testing.T) {
	p := easy()
	p.Interval = 2
	f := made(t, p, 50)
	slow, fast := []api.Header{p.First}, []api.Header{p.First}
	for range 5 {
		slow = append(slow, mined(p, slow, 1, 1000))
		f.Add(slow[len(slow)-1])
	}
	for range 3 {
		fast = append(fast, mined(p, fast, 2, 1))
		if _, _, e := f.Add(fast[len(fast)-1]); e != api.OK {
			t.Fatal(e)
		}
	}
	id, n := f.Best()
	sum := big.Of(0)
	for _, h := range fast {
		sum, _ = target.Sum(sum, workOf(h))
	}
	if id != header.Id(fast[3]) || n != 3 || f.Work() != sum {
		t.Error("the most work", n)
	}
}

// TestNone: no forest.
func TestNone(t *testing.T) {
	var f *Forest
	n, gone, e := f.Add(api.Header{})
	id, height := f.Best()
	h, is := f.At(0)
	a, b, c := f.Find(api.Hash{})
	all, forks := f.Size()
	if n != 0 || gone != nil || e != api.ErrNil || id != (api.Hash{}) || height != 0 || h != (api.Header{}) || is || a != 0 || b || c || all != 0 || forks != 0 || f.Chain() != nil || f.Work() != (api.Big{}) {
		t.Error("no forest")
	}
}

// model does the chapter's words plainly.
type model struct {
	p    api.Params
	room int
	list []api.Header // held, as they were added
	best api.Header
	work api.Big
}

func (m *model) find(id api.Hash) (api.Header, bool) {
	for _, h := range m.list {
		if header.Id(h) == id {
			return h, true
		}
	}
	return api.Header{}, false
}

func (m *model) chain(h api.Header) []api.Header {
	l := []api.Header{h}
	for h != m.p.First {
		h, _ = m.find(h.Prev)
		l = append(l, h)
	}
	slices.Reverse(l)
	return l
}

func (m *model) add(h api.Header) (int, []api.Hash, api.Errno) {
	if _, is := m.find(header.Id(h)); is {
		return len(m.chain(h)) - 1, nil, api.OK
	}
	prev, is := m.find(h.Prev)
	if !is {
		return 0, nil, api.ErrPrev
	}
	if e := rules.Right(m.p, m.chain(prev), h); e != api.OK {
		return 0, nil, e
	}
	m.list = append(m.list, h)
	sum := big.Of(0)
	for _, x := range m.chain(h) {
		sum, _ = target.Sum(sum, workOf(x))
	}
	if big.Less(m.work, sum) {
		m.best, m.work = h, sum
	}
	height := len(m.chain(h)) - 1
	var gone []api.Hash
	for {
		best := m.chain(m.best)
		forks, leaf := 0, -1
		for i, x := range m.list {
			if slices.Contains(best, x) {
				continue
			}
			forks++
			if leaf < 0 && !slices.ContainsFunc(m.list, func(y api.Header) bool { return y.Prev == header.Id(x) }) {
				leaf = i
			}
		}
		if forks <= m.room {
			return height, gone, api.OK
		}
		gone = append(gone, header.Id(m.list[leaf]))
		m.list = slices.Delete(m.list, leaf, leaf+1)
	}
}

// TestAll: P14.2 to P14.4 by chance, against the words.
func TestAll(t *testing.T) {
	r := rand.New(rand.NewSource(14))
	for range 12 {
		p := easy()
		p.Interval = 2 + r.Intn(3)
		room := 1 + r.Intn(6)
		f := made(t, p, room)
		m := &model{p: p, room: room, list: []api.Header{p.First}, best: p.First, work: workOf(p.First)}
		ever := []api.Header{p.First}
		for range 60 {
			h := ever[r.Intn(len(ever))]
			if prev := m.list[r.Intn(len(m.list))]; r.Intn(4) > 0 {
				if r.Intn(2) == 0 {
					prev = m.best
				}
				h = mined(p, m.chain(prev), r.Uint32(), uint32(r.Intn(30)))
			}
			before := f.Work()
			n, gone, e := f.Add(h)
			n2, gone2, e2 := m.add(h)
			if n != n2 || e != e2 || !slices.Equal(gone, gone2) {
				t.Fatal("Add", n, n2, e, e2, gone, gone2)
			}
			if e == api.OK {
				ever = append(ever, h)
			}
			id, height := f.Best()
			all, forks := f.Size()
			chain := m.chain(m.best)
			if id != header.Id(m.best) || height != len(chain)-1 || !slices.Equal(f.Chain(), chain) || f.Work() != m.work || all != len(m.list) || forks != all-len(chain) || forks > room || big.Less(f.Work(), before) {
				t.Fatal("the best chain")
			}
			for _, x := range ever {
				_, held := m.find(header.Id(x))
				if _, best, is := f.Find(header.Id(x)); is != held || best != slices.Contains(chain, x) {
					t.Fatal("Find")
				}
			}
		}
	}
}
