package big

import (
	"math"
	model "math/big"
	"math/rand"
	"testing"

	"scantling/api"
)

var most = api.Big{math.MaxUint64, math.MaxUint64, math.MaxUint64, math.MaxUint64}

// far turns a number into the library's.
func far(a api.Big) *model.Int {
	h := ToHash(a)
	b := make([]byte, 32)
	for i, x := range h {
		b[31-i] = x
	}
	return new(model.Int).SetBytes(b)
}

// near turns the library's number, modulo 2^256, into ours.
func near(n *model.Int) api.Big {
	var h api.Hash
	whole := new(model.Int).Mod(n, new(model.Int).Lsh(model.NewInt(1), 256))
	for i, x := range whole.FillBytes(make([]byte, 32)) {
		h[31-i] = x
	}
	return OfHash(h)
}

// numbers are edges, and others of all lengths.
func numbers() []api.Big {
	r := rand.New(rand.NewSource(1))
	l := []api.Big{{}, {1}, {2}, {math.MaxUint64}, {0, 1}, {0, 0, 0, 1 << 63}, {0, 0, 0, 1}, most, {math.MaxUint64 - 1, math.MaxUint64, math.MaxUint64, math.MaxUint64}}
	for n := range 60 {
		l = append(l, Down(api.Big{r.Uint64(), r.Uint64(), r.Uint64(), r.Uint64()}, n*17%256))
	}
	return l
}

// TestPairs: P2.1 to P2.3 against the library's numbers.
func TestPairs(t *testing.T) {
	for _, a := range numbers() {
		if Bits(a) != far(a).BitLen() {
			t.Error("P2.1: Bits", a)
		}
		for _, b := range numbers() {
			if Less(a, b) != (far(a).Cmp(far(b)) < 0) {
				t.Error("P2.1: Less", a, b)
			}
			sum := new(model.Int).Add(far(a), far(b))
			if s, c := Add(a, b); s != near(sum) || c != (sum.BitLen() > 256) {
				t.Error("P2.2: Add", a, b)
			}
			if s, c := Sub(a, b); s != near(new(model.Int).Sub(far(a), far(b))) || c != Less(a, b) {
				t.Error("P2.2: Sub", a, b)
			}
			product := new(model.Int).Mul(far(a), new(model.Int).SetUint64(b[0]))
			if p, c := Mul(a, b[0]); p != near(product) || Of(c) != near(product.Rsh(product, 256)) {
				t.Error("P2.2: Mul", a, b)
			}
			q, r, e := Div(a, b)
			if b == (api.Big{}) {
				if q != b || r != b || e != api.ErrArg {
					t.Error("P2.3: Div by 0", a)
				}
				continue
			}
			x, y := new(model.Int).DivMod(far(a), far(b), new(model.Int))
			if q != near(x) || r != near(y) || e != api.OK {
				t.Error("P2.3: Div", a, b)
			}
		}
	}
}

// TestShifts: P2.4 with all counts, and what counts not.
func TestShifts(t *testing.T) {
	for _, a := range numbers() {
		for n := range 300 {
			if Up(a, n) != near(new(model.Int).Lsh(far(a), uint(n))) || Down(a, n) != near(new(model.Int).Rsh(far(a), uint(n))) {
				t.Error("P2.4", a, n)
			}
		}
		for _, n := range []int{-1, math.MinInt} {
			if Up(a, n) != a || Down(a, n) != a {
				t.Error("P2.4: below 0", a, n)
			}
		}
		if Up(a, math.MaxInt) != (api.Big{}) || Down(a, math.MaxInt) != (api.Big{}) {
			t.Error("P2.4: far above", a)
		}
	}
}

// TestHashes: P2.5.
func TestHashes(t *testing.T) {
	if OfHash(api.Hash{1, 2}) != Of(513) || OfHash(api.Hash{31: 0x80}) != Up(Of(1), 255) {
		t.Error("P2.5: OfHash")
	}
	for _, a := range numbers() {
		if OfHash(ToHash(a)) != a {
			t.Error("P2.5: back", a)
		}
	}
	if ToHash(api.Big{0x0807060504030201, 9}) != (api.Hash{1, 2, 3, 4, 5, 6, 7, 8, 9}) {
		t.Error("P2.5: ToHash")
	}
}

// TestExamples: those of the chapter.
func TestExamples(t *testing.T) {
	if s, c := Add(most, Of(1)); s != Of(0) || !c {
		t.Error("Add")
	}
	if s, c := Sub(Of(0), Of(1)); s != most || !c {
		t.Error("Sub")
	}
	if p, c := Mul(Up(Of(1), 255), 6); p != Of(0) || c != 3 {
		t.Error("Mul")
	}
	if q, r, e := Div(Of(7), Of(100)); q != Of(0) || r != Of(7) || e != api.OK {
		t.Error("Div")
	}
	if Bits(Of(255)) != 8 || Bits(Of(0)) != 0 {
		t.Error("Bits")
	}
}
