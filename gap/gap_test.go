package gap

import (
	"bytes"
	"crypto/sha256"
	"math"
	"math/rand"
	"testing"

	"scantling/api"
)

// TestScript: P22.1.
func TestScript(t *testing.T) {
	for _, seed := range []string{"", "seed", "another"} {
		for _, i := range []int{0, 1, 255, 256, 1 << 24, math.MaxInt32} {
			b := append([]byte(seed), byte(i), byte(i>>8), byte(i>>16), byte(i>>24))
			sum := sha256.Sum256(b)
			want := append([]byte{0, 0x14}, sum[:20]...)
			if !bytes.Equal(Script([]byte(seed), i), want) || Hash([]byte(seed), i) != api.Hash(sha256.Sum256(want)) {
				t.Error("Script", seed, i)
			}
		}
		for _, i := range []int{-1, math.MinInt} {
			if Script([]byte(seed), i) != nil || Hash([]byte(seed), i) != (api.Hash{}) {
				t.Error("below 0")
			}
		}
	}
	seed := append(make([]byte, 0, 20), 1)
	Script(seed, 7)
	if seed[:2][1] != 0 {
		t.Error("the room behind was written")
	}
}

// plain is P22.2 word by word.
func plain(used []int, gap int) int {
	gap = max(gap, 1)
	for n := gap; n < api.MaxWatch; n++ {
		bad := false
		for _, u := range used {
			bad = bad || u < n && u > n-gap-1
		}
		if !bad {
			return n
		}
	}
	return api.MaxWatch
}

// TestWatch: P22.2 and P22.3.
func TestWatch(t *testing.T) {
	for i, c := range []struct {
		used []int
		gap  int
		want int
	}{
		{nil, 5, 5}, {[]int{0}, 5, 6}, {[]int{0, 4}, 5, 10}, {[]int{4, 0, 4}, 5, 10}, {[]int{7}, 5, 5}, {[]int{-1, -5}, 5, 5}, {nil, 0, 1}, {nil, -3, 1}, {[]int{0}, 0, 2}, {nil, 200, 200}, {nil, 201, 200}, {nil, math.MaxInt, 200}, {nil, math.MinInt, 1}, {[]int{0}, 200, 200}, {[]int{0}, 199, 200}, {[]int{199, math.MaxInt, math.MinInt}, 5, 5},
	} {
		if n := Watch(c.used, c.gap); n != c.want {
			t.Error("Watch", i, n, c.want)
		}
	}
	r := rand.New(rand.NewSource(22))
	for range 3000 {
		gap := r.Intn(60) - 2
		var used []int
		last := 0
		for range r.Intn(60) {
			used = append(used, r.Intn(230)-5)
			n := Watch(used, gap)
			if n < last || n != plain(used, gap) {
				t.Fatal("Watch", used, gap, n, plain(used, gap))
			}
			last = n
			if m := Watch(append(append([]int(nil), used...), n, n+3), gap); m != n {
				t.Fatal("one that is not watched", used, gap)
			}
		}
	}
	all := make([]int, 300)
	for i := range all {
		all[i] = i
	}
	if Watch(all, 5) != api.MaxWatch {
		t.Error("at most")
	}
}
