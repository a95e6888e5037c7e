package part

import (
	"bytes"
	"math"
	"math/rand"
	"reflect"
	"slices"
	"testing"

	"scantling/api"
	"scantling/merkle"
	"scantling/sha"
)

func hashes(n int) []api.Hash {
	var l []api.Hash
	for i := range n {
		l = append(l, sha.Sum([]byte{byte(i), byte(i >> 8)}))
	}
	return l
}

// TestExample: the chapter's.
func TestExample(t *testing.T) {
	l := hashes(3)
	p, e := Build(l, []bool{false, true, false})
	want := Part{N: 3, Hashes: []api.Hash{l[0], l[1], merkle.Join(l[2], l[2])}, Flags: []bool{true, true, false, true, false}}
	if e != api.OK || !reflect.DeepEqual(p, want) {
		t.Error("Build", p, e)
	}
	p, e = Build(l, make([]bool, 3))
	if e != api.OK || !reflect.DeepEqual(p, Part{N: 3, Hashes: []api.Hash{merkle.Root(l...)}, Flags: []bool{false}}) {
		t.Error("of none", p, e)
	}
	p, e = Build(l[:1], []bool{true})
	if e != api.OK || !reflect.DeepEqual(p, Part{N: 1, Hashes: l[:1], Flags: []bool{true}}) {
		t.Error("of one", p, e)
	}
	for i, k := range []struct {
		ids []api.Hash
		is  []bool
		e   api.Errno
	}{{nil, nil, api.ErrArg}, {l, []bool{true}, api.ErrArg}, {l[:1], nil, api.ErrArg}, {nil, []bool{true}, api.ErrArg}, {hashes(257), make([]bool, 257), api.ErrMany}, {hashes(257), nil, api.ErrArg}, {hashes(256), make([]bool, 256), api.OK}} {
		if p, e := Build(k.ids, k.is); e != k.e || e != api.OK && !reflect.DeepEqual(p, Part{}) {
			t.Error("Build", i, e)
		}
	}
}

// TestCheck: P30.2, what is refused.
func TestCheck(t *testing.T) {
	l := hashes(3)
	good, _ := Build(l, []bool{false, true, false})
	turned := func(turn func(*Part)) Part {
		p := Part{N: good.N, Hashes: slices.Clone(good.Hashes), Flags: slices.Clone(good.Flags)}
		turn(&p)
		return p
	}
	cc := merkle.Join(l[2], l[2])
	for i, k := range []struct {
		p Part
		e api.Errno
	}{
		{good, api.OK}, {turned(func(p *Part) { p.N = 0 }), api.ErrArg}, {turned(func(p *Part) { p.N = 257 }), api.ErrArg}, {turned(func(p *Part) { p.N = -3 }), api.ErrArg}, {turned(func(p *Part) { p.N = math.MaxInt }), api.ErrArg}, {turned(func(p *Part) { p.N = 2 }), api.ErrMany}, {turned(func(p *Part) { p.Flags = p.Flags[:2] }), api.ErrMany},
		{turned(func(p *Part) { p.Flags = p.Flags[:4] }), api.ErrProof}, {turned(func(p *Part) { p.Flags = append(p.Flags, false) }), api.ErrProof}, {turned(func(p *Part) { p.Hashes = p.Hashes[:2] }), api.ErrProof}, {turned(func(p *Part) { p.Hashes, p.Flags = nil, nil }), api.ErrProof}, {turned(func(p *Part) { p.Hashes = nil }), api.ErrProof},
		{Part{N: 3, Hashes: l, Flags: []bool{false, false, false}}, api.ErrProof}, {turned(func(p *Part) { p.Hashes[1] = p.Hashes[0] }), api.ErrProof}, {turned(func(p *Part) { p.Hashes[2] = merkle.Join(l[0], l[1]) }), api.ErrProof}, {turned(func(p *Part) { p.N = 4 }), api.OK},
		{Part{N: 4, Hashes: []api.Hash{l[0], l[1], l[2], l[2]}, Flags: []bool{true, true, true, true, true, true, true}}, api.ErrProof}, {Part{N: 4, Hashes: []api.Hash{l[0], l[1], cc}, Flags: []bool{true, true, true, true, false}}, api.OK}, {Part{N: 1, Hashes: l[:1], Flags: []bool{false}}, api.OK}, {Part{N: 1, Flags: []bool{false}}, api.ErrProof}, {Part{N: 1}, api.ErrProof}, {Part{N: 256, Flags: make([]bool, 5000)}, api.ErrProof},
	} {
		root, ids, at, e := Check(k.p)
		if e != k.e || e != api.OK && (root != api.Hash{} || ids != nil || at != nil) {
			t.Error("Check", i, e, k.e)
		}
	}
	root, ids, at, e := Check(good)
	if e != api.OK || root != merkle.Root(l...) || !slices.Equal(ids, l[1:2]) || !slices.Equal(at, []int{1}) {
		t.Error("Check")
	}
}

// TestAll: P30.4, at all lengths.
func TestAll(t *testing.T) {
	r := rand.New(rand.NewSource(30))
	for n := 1; n <= 256; n++ {
		l := hashes(n)
		for round := range 4 {
			is := make([]bool, n)
			var ids []api.Hash
			var at []int
			for i := range is {
				if is[i] = round > 0 && (round == 1 || r.Intn(n) < 3); is[i] {
					ids, at = append(ids, l[i]), append(at, i)
				}
			}
			p, e := Build(l, is)
			root, got, places, ce := Check(p)
			if e != api.OK || ce != api.OK || root != merkle.Root(l...) || !slices.Equal(got, ids) || !slices.Equal(places, at) {
				t.Fatal("Check of Build", n, round, e, ce)
			}
			if len(ids) == 0 && (len(p.Hashes) != 1 || len(p.Flags) != 1) {
				t.Fatal("one hash alone", n)
			}
			b, e := Put(p)
			again, ge := Get(b)
			if e != api.OK || ge != api.OK || !reflect.DeepEqual(p, again) {
				t.Fatal("Get of Put", n, e, ge)
			}
			// Another part that tells this root tells ids that are theirs.
			k := r.Intn(len(p.Flags))
			p.Flags[k] = !p.Flags[k]
			if other, got, places, e := Check(p); e == api.OK && other == root {
				for i, id := range got {
					if l[places[i]] != id {
						t.Fatal("another id", n)
					}
				}
			}
		}
	}
}

// TestBytes: P30.3.
func TestBytes(t *testing.T) {
	l := hashes(3)
	p, _ := Build(l, []bool{false, true, false})
	b, e := Put(p)
	want := slices.Concat([]byte{3, 0, 3, 0, 5, 0}, l[0][:], l[1][:], p.Hashes[2][:], []byte{0x0b})
	if e != api.OK || !bytes.Equal(b, want) {
		t.Error("Put", e)
	}
	for i, k := range []struct {
		p Part
		e api.Errno
	}{{Part{}, api.ErrArg}, {Part{N: 257}, api.ErrArg}, {Part{N: -1}, api.ErrArg}, {Part{N: 256}, api.OK}, {Part{N: 1, Hashes: make([]api.Hash, 512), Flags: make([]bool, 1024)}, api.OK}, {Part{N: 1, Hashes: make([]api.Hash, 513)}, api.ErrArg}, {Part{N: 1, Flags: make([]bool, 1025)}, api.ErrArg}, {Part{N: 1, Flags: []bool{true, true, true, true, true, true, true, true, false, true}}, api.OK}} {
		b, e := Put(k.p)
		if e != k.e || e != api.OK && b != nil {
			t.Error("Put", i, e)
		}
		if e == api.OK {
			if p, ge := Get(b); ge != api.OK || !reflect.DeepEqual(p, k.p) {
				t.Error("Get", i, ge)
			}
		}
	}
	long := append(slices.Clone(want), 0)
	padded := slices.Clone(want)
	padded[len(padded)-1] |= 0x20
	for i, b := range [][]byte{nil, {1}, {1, 0, 0, 0, 0}, {0, 0, 0, 0, 0, 0}, {1, 1, 0, 0, 0, 0}, {1, 0, 1, 2, 0, 0}, {1, 0, 0, 0, 1, 4}, {1, 0, 0, 0, 1, 0}, {1, 0, 0, 0, 1, 0, 2}, {1, 0, 0, 0, 0, 0, 0}, long, padded, want[:len(want)-1], {1, 0, 255, 255, 255, 255}} {
		if p, e := Get(b); e != api.ErrBytes || !reflect.DeepEqual(p, Part{}) {
			t.Error("Get of no part's", i, e)
		}
	}
	if p, e := Get([]byte{1, 0, 0, 0, 1, 0, 1}); e != api.OK || !reflect.DeepEqual(p, Part{N: 1, Flags: []bool{true}}) {
		t.Error("Get", p, e)
	}
}
