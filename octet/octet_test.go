package octet

import (
	"bytes"
	"encoding/binary"
	"encoding/hex"
	"math"
	"slices"
	"strings"
	"testing"

	"scantling/api"
)

// edges are the numbers at which forms change.
func edges() []uint64 {
	var l []uint64
	for _, n := range []uint64{0, 1, 252, 253, 254, 255, 256, 513, 1<<16 - 1, 1 << 16, 1<<32 - 1, 1 << 32, 1 << 63, math.MaxUint64} {
		l = append(l, n)
	}
	return l
}

// TestPut: P4.1.
func TestPut(t *testing.T) {
	b := append(make([]byte, 0, 64), 7)
	for _, n := range edges() {
		for size := -2; size < 12; size++ {
			out := Put(b, n, size)
			if !slices.Contains([]int{1, 2, 4, 8}, size) {
				if !bytes.Equal(out, b) || &out[0] == &b[0] {
					t.Error("a size that may not be", size)
				}
				if m, next, e := Take(b, 0, size); m != 0 || next != 0 || e != api.ErrArg {
					t.Error("Take of it", size)
				}
				continue
			}
			want := binary.LittleEndian.AppendUint64([]byte{7}, n)[:size+1]
			if !bytes.Equal(out, want) {
				t.Error("Put", n, size, out)
			}
			low := n
			if size < 8 {
				low = n & (1<<(8*size) - 1)
			}
			if m, next, e := Take(append(out, 9), 1, size); m != low || next != size+1 || e != api.OK {
				t.Error("Take", n, size)
			}
			if m, next, e := Take(out, 1, size); m != low || next != size+1 || e != api.OK {
				t.Error("Take of just enough", n, size)
			}
			if m, next, e := Take(out[:size], 1, size); m != 0 || next != 0 || e != api.ErrBytes {
				t.Error("Take of too few", n, size)
			}
		}
	}
	if !bytes.Equal(b[:9], []byte{7, 0, 0, 0, 0, 0, 0, 0, 0}) {
		t.Error("the room behind was written")
	}
	for _, at := range []int{-1, 3, math.MinInt, math.MaxInt} {
		if n, next, e := Take([]byte{1, 2}, at, 1); n != 0 || next != 0 || e != api.ErrArg {
			t.Error("Take at", at)
		}
	}
	if _, _, e := Take([]byte{1, 2}, 2, 1); e != api.ErrBytes {
		t.Error("Take at the end")
	}
}

// TestVar: P4.2.
func TestVar(t *testing.T) {
	for _, n := range edges() {
		out := PutVar([]byte{7}, n)
		want := []byte{7, byte(n)}
		switch {
		case n >= 1<<32:
			want = binary.LittleEndian.AppendUint64([]byte{7, 255}, n)
		case n >= 1<<16:
			want = binary.LittleEndian.AppendUint32([]byte{7, 254}, uint32(n))
		case n >= 253:
			want = binary.LittleEndian.AppendUint16([]byte{7, 253}, uint16(n))
		}
		if !bytes.Equal(out, want) {
			t.Error("PutVar", n, out)
		}
		if m, next, e := TakeVar(append(out, 1, 2), 1); m != n || next != len(out) || e != api.OK {
			t.Error("TakeVar", n, m, next, e)
		}
		if m, next, e := TakeVar(out, 1); m != n || next != len(out) || e != api.OK {
			t.Error("TakeVar of just enough", n, e)
		}
		for cut := 1; cut < len(out); cut++ {
			if m, next, e := TakeVar(out[:cut], 1); m != 0 || next != 0 || e != api.ErrBytes {
				t.Error("TakeVar of too few", n, cut)
			}
		}
	}
	for _, b := range [][]byte{{0xfd, 0xfc, 0}, {0xfd, 0}, {0xff, 0, 0, 0, 0, 0, 0, 0, 0}, {0xfe, 0xff, 0xff, 0, 0}, {0xff, 0xff, 0xff, 0xff, 0xff, 0, 0, 0, 0}, {}} {
		if m, next, e := TakeVar(b, 0); m != 0 || next != 0 || e != api.ErrBytes {
			t.Error("TakeVar", b)
		}
	}
	for _, at := range []int{-1, 2} {
		if m, next, e := TakeVar([]byte{1}, at); m != 0 || next != 0 || e != api.ErrArg {
			t.Error("TakeVar at", at)
		}
	}
	b := append(make([]byte, 0, 32), 1)
	if out := PutVar(b, 5); &out[0] == &b[0] || b[:2][1] != 0 {
		t.Error("PutVar: no new memory")
	}
}

// TestSome: P4.3.
func TestSome(t *testing.T) {
	b := []byte{1, 2, 3}
	for at := -1; at < 5; at++ {
		for n := range uint64(5) {
			part, next, e := Some(b, at, n)
			switch {
			case at < 0 || at > 3:
				if part != nil || next != 0 || e != api.ErrArg {
					t.Error("at", at)
				}
			case at+int(n) > 3:
				if part != nil || next != 0 || e != api.ErrBytes {
					t.Error("too few", at, n)
				}
			default:
				if !bytes.Equal(part, b[at:at+int(n)]) || next != at+int(n) || e != api.OK || n > 0 && &part[0] == &b[at] {
					t.Error("Some", at, n)
				}
			}
		}
	}
	if _, _, e := Some(b, 1, math.MaxUint64); e != api.ErrBytes {
		t.Error("more than there can be")
	}
}

// TestHex: P4.4.
func TestHex(t *testing.T) {
	var all []byte
	for i := range 256 {
		all = append(all, byte(i))
	}
	if Hex(all) != hex.EncodeToString(all) || Hex(nil) != "" {
		t.Error("Hex")
	}
	if b, e := Unhex(Hex(all)); !bytes.Equal(b, all) || e != api.OK {
		t.Error("Unhex")
	}
	if b, e := Unhex(""); len(b) != 0 || e != api.OK {
		t.Error("Unhex of nothing")
	}
	for _, s := range []string{"0AFF", "0", "0g", "g0", "0a ", "0a\x00\x00", "é", "000"} {
		if b, e := Unhex(s); b != nil || e != api.ErrBytes {
			t.Error("Unhex", s)
		}
	}
}

// TestTurned: P4.5.
func TestTurned(t *testing.T) {
	h := api.Hash{1, 31: 0xab}
	s := "ab" + strings.Repeat("0", 60) + "01"
	if Turned(h) != s || h != (api.Hash{1, 31: 0xab}) {
		t.Error("Turned")
	}
	if g, e := Unturned(s); g != h || e != api.OK {
		t.Error("Unturned")
	}
	for _, s := range []string{"", s[2:], s + "00", strings.ToUpper(s), "x" + s[1:]} {
		if g, e := Unturned(s); g != (api.Hash{}) || e != api.ErrBytes {
			t.Error("Unturned", s)
		}
	}
}
