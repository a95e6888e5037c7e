package target

import (
	"math"
	"math/rand"
	"testing"

	model "math/big"

	"scantling/api"
	"scantling/big"
)

var most = api.Big{math.MaxUint64, math.MaxUint64, math.MaxUint64, math.MaxUint64}

func far(a api.Big) *model.Int {
	n := new(model.Int)
	for i := range 4 {
		n.Lsh(n, 64).Add(n, new(model.Int).SetUint64(a[3-i]))
	}
	return n
}

// TestOf: P3.1, by hand, and against its words.
func TestOf(t *testing.T) {
	limit := big.Up(big.Of(0xffff), 208)
	for _, c := range []struct {
		bits uint32
		t    api.Big
		is   bool
	}{
		{0x1d00ffff, limit, true}, {0x03000005, big.Of(5), true}, {0x01050000, big.Of(5), true}, {0x01010000, big.Of(1), true}, {0x02000500, big.Of(5), true},
		{0, api.Big{}, false}, {0x03800005, api.Big{}, false}, {0x23000001, api.Big{}, false}, {0x22000001, big.Up(big.Of(1), 248), true},
		{0x220000ff, big.Up(big.Of(255), 248), true}, {0x22000100, api.Big{}, false}, {0x2100ffff, big.Up(big.Of(0xffff), 240), true},
		{0x21010000, api.Big{}, false}, {0x207fffff, big.Up(big.Of(0x7fffff), 232), true}, {0x0100ffff, api.Big{}, false},
		{0x01800001, api.Big{}, false}, {0x02ffffff, api.Big{}, false}, {0xff000000, api.Big{}, false}, {0xff7fffff, api.Big{}, false}, {0x007fffff, api.Big{}, false},
	} {
		if v, is := Of(c.bits); v != c.t || is != c.is {
			t.Errorf("Of %x: %x %v", c.bits, v, is)
		}
	}
	r := rand.New(rand.NewSource(2))
	for range 20000 {
		bits := uint32(r.Intn(40))<<24 | r.Uint32()&0xffffff
		n := model.NewInt(int64(bits & 0x7fffff))
		if size := int(bits >> 24); size < 3 {
			n.Rsh(n, uint(8*(3-size)))
		} else {
			n.Lsh(n, uint(8*(size-3)))
		}
		want := n.Sign() > 0 && bits&0x800000 == 0 && n.BitLen() <= 256
		v, is := Of(bits)
		if is != want || is && far(v).Cmp(n) != 0 || !is && v != (api.Big{}) {
			t.Errorf("Of %x", bits)
		}
		if is {
			if again, ok := Of(Compact(v)); again != v || !ok {
				t.Errorf("Compact of what Of answers: %x", bits)
			}
		}
	}
}

// TestCompact: P3.2, and what follows of it.
func TestCompact(t *testing.T) {
	for _, c := range []struct {
		t    api.Big
		bits uint32
	}{
		{big.Up(big.Of(0xffff), 208), 0x1d00ffff}, {big.Of(0x80), 0x02008000}, {big.Of(5), 0x01050000}, {big.Of(0x7f), 0x017f0000}, {api.Big{}, 0},
		{most, 0x2100ffff}, {big.Of(0x7fffff), 0x037fffff}, {big.Of(0x800000), 0x04008000}, {big.Of(0x8000), 0x03008000}, {big.Of(0x12345678), 0x04123456},
	} {
		if b := Compact(c.t); b != c.bits {
			t.Errorf("Compact %x: %x", c.t, b)
		}
	}
	r := rand.New(rand.NewSource(3))
	for n := range 2000 {
		a := big.Down(api.Big{r.Uint64(), r.Uint64(), r.Uint64(), r.Uint64()}, n%255)
		if a == (api.Big{}) {
			continue
		}
		v, is := Of(Compact(a))
		lost, below := big.Sub(a, v)
		if !is || below || !big.Less(lost, big.Of(1)) && !big.Less(big.Up(lost, 15), a) && big.Bits(a) > 15 {
			t.Errorf("Of Compact %x: %x", a, v)
		}
		if Compact(a)&0x800000 != 0 {
			t.Errorf("a sign: %x", a)
		}
	}
}

// TestWork: P3.3.
func TestWork(t *testing.T) {
	limit := big.Up(big.Of(0xffff), 208)
	half := big.Up(big.Of(1), 255)
	for _, c := range []struct{ t, w api.Big }{
		{limit, big.Of(0x100010001)}, {most, big.Of(1)}, {api.Big{}, most}, {big.Of(1), half}, {half, big.Of(1)}, {big.Of(2), api.Big{0x5555555555555555, 0x5555555555555555, 0x5555555555555555, 0x5555555555555555}},
	} {
		if w := Work(c.t); w != c.w {
			t.Errorf("Work %x: %x", c.t, w)
		}
	}
	r := rand.New(rand.NewSource(4))
	for n := range 500 {
		a := big.Down(api.Big{r.Uint64(), r.Uint64(), r.Uint64(), r.Uint64()}, n%250)
		q := new(model.Int).Lsh(model.NewInt(1), 256)
		q.Div(q, new(model.Int).Add(far(a), model.NewInt(1)))
		if far(Work(a)).Cmp(q) != 0 {
			t.Errorf("Work %x", a)
		}
	}
}

// TestMeets: P3.4.
func TestMeets(t *testing.T) {
	h := api.Hash{5}
	if !Meets(h, big.Of(5)) || Meets(h, big.Of(4)) || !Meets(h, big.Of(6)) || Meets(api.Hash{}, big.Of(0)) || !Meets(api.Hash{}, big.Of(1)) || Meets(api.Hash{31: 1}, big.Up(big.Of(1), 247)) {
		t.Error("Meets")
	}
	if s, c := Sum(); s != big.Of(0) || c {
		t.Error("Sum of none")
	}
	if s, c := Sum(big.Of(1), big.Of(2), big.Of(3)); s != big.Of(6) || c {
		t.Error("Sum")
	}
	if s, c := Sum(most, big.Of(3), big.Of(2)); s != big.Of(4) || !c {
		t.Error("Sum beyond")
	}
}
