package merkle

import (
	"math"
	"slices"
	"testing"

	"scantling/api"
	"scantling/sha"
)

func hashes(n int) []api.Hash {
	var l []api.Hash
	for i := range n {
		l = append(l, sha.Sum([]byte{byte(i), byte(i >> 8)}))
	}
	return l
}

// TestRoot: P10.1.
func TestRoot(t *testing.T) {
	l := hashes(3)
	a, b, c := l[0], l[1], l[2]
	ab := sha.Twice(slices.Concat(a[:], b[:]))
	if Join(a, b) != ab || Join(b, a) == ab {
		t.Error("Join")
	}
	if Root() != (api.Hash{}) || Root(a) != a || Root(a, b) != ab || Root(l...) != Join(ab, Join(c, c)) {
		t.Error("Root")
	}
	if !slices.Equal(l, hashes(3)) {
		t.Error("changed")
	}
}

// TestBranch: P10.2, the chapter's example.
func TestBranch(t *testing.T) {
	l := hashes(3)
	a, b, c := l[0], l[1], l[2]
	if x, e := Branch(l, 2); e != api.OK || !slices.Equal(x, []api.Hash{c, Join(a, b)}) {
		t.Error("of the third")
	}
	if x, e := Branch(l, 1); e != api.OK || !slices.Equal(x, []api.Hash{a, Join(c, c)}) {
		t.Error("of the second")
	}
	if x, e := Branch(l[:1], 0); e != api.OK || len(x) != 0 {
		t.Error("of one")
	}
	for _, k := range []int{-1, 3, math.MinInt, math.MaxInt} {
		if x, e := Branch(l, k); x != nil || e != api.ErrArg {
			t.Error("of none", k)
		}
	}
	if x, e := Branch(nil, 0); x != nil || e != api.ErrArg {
		t.Error("of no list")
	}
	x, _ := Branch(l[:2], 0)
	x[0] = api.Hash{}
	if l[1] != b {
		t.Error("shared")
	}
}

// TestFold: P10.3.
func TestFold(t *testing.T) {
	l := hashes(3)
	a, b, c := l[0], l[1], l[2]
	ab, cc := Join(a, b), Join(c, c)
	for i, x := range []struct {
		id     api.Hash
		branch []api.Hash
		k      int
		want   api.Hash
		e      api.Errno
	}{
		{c, []api.Hash{c, ab}, 2, Root(l...), api.OK}, {c, []api.Hash{c, ab}, 3, api.Hash{}, api.ErrProof}, {c, []api.Hash{c, ab}, 4, api.Hash{}, api.ErrArg}, {c, []api.Hash{c, ab}, -1, api.Hash{}, api.ErrArg},
		{a, nil, 0, a, api.OK}, {a, nil, 1, api.Hash{}, api.ErrArg}, {b, []api.Hash{a, cc}, 1, Root(l...), api.OK}, {a, []api.Hash{b, cc}, 0, Root(l...), api.OK}, {cc, []api.Hash{ab}, 1, Root(l...), api.OK},
		{a, make([]api.Hash, 33), -1, api.Hash{}, api.ErrMany}, {a, make([]api.Hash, 32), 1 << 32, api.Hash{}, api.ErrArg}, {a, make([]api.Hash, 33), 0, api.Hash{}, api.ErrMany}, {a, []api.Hash{b}, math.MinInt, api.Hash{}, api.ErrArg}, {a, nil, math.MaxInt, api.Hash{}, api.ErrArg},
	} {
		if h, e := Fold(x.id, x.branch, x.k); h != x.want || e != x.e {
			t.Error("Fold", i, e)
		}
	}
	long := hashes(40)[8:]
	want := b
	for _, h := range long {
		want = Join(h, want)
	}
	if h, e := Fold(b, long, 1<<32-1); h != want || e != api.OK {
		t.Error("the longest")
	}
}

// TestDoubled: P10.4.
func TestDoubled(t *testing.T) {
	l := hashes(3)
	a, b, c := l[0], l[1], l[2]
	for i, x := range []struct {
		l    []api.Hash
		want bool
	}{{nil, false}, {l, false}, {[]api.Hash{a}, false}, {[]api.Hash{a, b, c, c}, true}, {[]api.Hash{a, a}, true}, {[]api.Hash{a, b, b, c}, false}, {[]api.Hash{a, b, a, b}, true}, {[]api.Hash{a, b, c, a, b, c}, false}, {[]api.Hash{a, b, c, a, a, b, c}, false}, {[]api.Hash{c, a, a, b, a, b, a, b}, true}} {
		if Doubled(x.l...) != x.want {
			t.Error("Doubled", i)
		}
	}
	if h, e := Leaf(make([]byte, 64)); h != (api.Hash{}) || e != api.ErrProof {
		t.Error("Leaf of 64")
	}
	for _, n := range []int{0, 63, 65, 128} {
		if h, e := Leaf(make([]byte, n)); h != sha.Twice(make([]byte, n)) || e != api.OK {
			t.Error("Leaf of", n)
		}
	}
}

// TestAll: P10.5, at all lengths and places.
func TestAll(t *testing.T) {
	for n := 1; n < 40; n++ {
		l := hashes(n)
		root := Root(l...)
		for k := range l {
			branch, e := Branch(l, k)
			if h, fe := Fold(l[k], branch, k); e != api.OK || fe != api.OK || h != root {
				t.Error("a branch", n, k)
			}
		}
		if Doubled(l...) {
			t.Error("Doubled", n)
		}
		if n%2 == 0 {
			var up []api.Hash
			for i := 0; i < n; i += 2 {
				up = append(up, Join(l[i], l[i+1]))
			}
			if Root(up...) != root {
				t.Error("the row above", n)
			}
		} else if twice := append(slices.Clone(l), l[n-1]); n > 2 && (Root(twice...) != root || !Doubled(twice...)) {
			t.Error("the last one twice", n)
		}
	}
}
