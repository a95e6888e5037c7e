package header

import (
	"bytes"
	"encoding/hex"
	"math"
	"slices"
	"testing"

	"scantling/api"
)

func hash(s string) api.Hash {
	b, _ := hex.DecodeString(s)
	return api.Hash(b)
}

func first() api.Header {
	return api.Header{Version: 1, Root: hash("3ba3edfd7a7b12b27ac72c3e67768f617fc81bc3888a51323a9fb8aa4b1e5e4a"), Time: 1231006505, Bits: 0x1d00ffff, Nonce: 2083236893}
}

// chain makes n headers, each on the one ahead.
func chain(n int) []api.Header {
	var l []api.Header
	h := first()
	for range n {
		l = append(l, h)
		h = api.Header{Version: 2, Prev: Id(h), Time: h.Time + 1, Nonce: uint32(len(l))}
	}
	return l
}

// TestPut: P8.1.
func TestPut(t *testing.T) {
	b := Put(api.Header{Version: 1, Time: 2, Bits: 258, Nonce: math.MaxUint32})
	want := append([]byte{1, 0, 0, 0}, make([]byte, 64)...)
	want = append(want, 2, 0, 0, 0, 2, 1, 0, 0, 255, 255, 255, 255)
	if !bytes.Equal(b, want) {
		t.Error("Put", b)
	}
	h := first()
	if Id(h) != hash("6fe28c0ab6f1b372c1a6a246ae63f74f931e8365e15a089c68d6190000000000") {
		t.Error("Id")
	}
	for n := range 200 {
		g, e := Get(make([]byte, n))
		if (e == api.OK) != (n == 80) || g != (api.Header{}) || n != 80 && e != api.ErrBytes {
			t.Error("Get of", n)
		}
	}
}

// TestBytes: P8.4, each byte belongs to one field alone.
func TestBytes(t *testing.T) {
	for i := range 80 {
		b := Put(first())
		b[i] ^= 0x55
		kept := bytes.Clone(b)
		h, e := Get(b)
		if e != api.OK || !bytes.Equal(Put(h), b) || h == first() || !bytes.Equal(b, kept) {
			t.Error("byte", i)
		}
		f := first()
		turned := 0
		for _, is := range []bool{h.Version != f.Version, h.Prev != f.Prev, h.Root != f.Root, h.Time != f.Time, h.Bits != f.Bits, h.Nonce != f.Nonce} {
			if is {
				turned++
			}
		}
		if turned != 1 || Id(h) == Id(f) {
			t.Error("fields of byte", i, turned)
		}
	}
}

// TestRow: P8.2.
func TestRow(t *testing.T) {
	l := chain(101)
	for n := range 102 {
		b := Row(l[:n]...)
		if len(b) != 80*n {
			t.Error("Row of", n)
		}
		got, e := Cut(b)
		if n > 100 {
			if got != nil || e != api.ErrMany {
				t.Error("Cut of many")
			}
			continue
		}
		if e != api.OK || !slices.Equal(got, l[:n]) {
			t.Error("Cut of", n)
		}
	}
	for _, n := range []int{1, 79, 81, 159, 8079, 8081} {
		if got, e := Cut(make([]byte, n)); got != nil || e != api.ErrBytes {
			t.Error("Cut of bytes", n)
		}
	}
	if got, e := Cut(make([]byte, 8080)); got != nil || e != api.ErrMany {
		t.Error("Cut of 8080")
	}
}

// TestLinked: P8.3.
func TestLinked(t *testing.T) {
	l := chain(9)
	h := l[0]
	if Linked() != 0 || Linked(h) != 1 || Linked(h, h) != 1 || Linked(l...) != 9 {
		t.Error("Linked")
	}
	for i := range l {
		m := slices.Clone(l)
		m[i].Version++
		want := i + 1
		if i == 8 {
			want = 9
		}
		if Linked(m...) != want {
			t.Error("turned", i)
		}
		m = slices.Clone(l)
		m[i].Prev[31] ^= 1
		if i == 0 {
			want = 1
		} else {
			want = i
		}
		if Linked(m...) != want {
			t.Error("Prev turned", i)
		}
	}
}
