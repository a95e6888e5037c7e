package sha

import (
	"bytes"
	"crypto/sha256"
	"testing"

	"scantling/api"
)

// some makes n bytes by a short rule.
func some(n int) []byte {
	b := make([]byte, n)
	for i := range b {
		b[i] = byte(i*7 + i>>8)
	}
	return b
}

// TestSum: P1.1 at all lengths around the ends of pieces.
func TestSum(t *testing.T) {
	for n := range 300 {
		b := some(n)
		if Sum(b) != api.Hash(sha256.Sum256(b)) {
			t.Errorf("Sum of %d bytes", n)
		}
		h := sha256.Sum256(b)
		if Twice(b) != api.Hash(sha256.Sum256(h[:])) {
			t.Errorf("Twice of %d bytes", n)
		}
	}
	b := some(1 << 20)
	if Sum(b) != api.Hash(sha256.Sum256(b)) || Sum(nil) != Sum([]byte{}) {
		t.Error("Sum of many, or of none")
	}
}

// TestParts: P1.2, a state goes on in several ways, and none turns another.
func TestParts(t *testing.T) {
	all := some(200)
	for cut := range all {
		s := Begin().Add(all[:cut])
		kept := s
		one, two := s.Add(all[cut:]), s.Add([]byte("x"))
		if one.End() != Sum(all) || two.End() != Sum(append(bytes.Clone(all[:cut]), 'x')) || s.End() != Sum(all[:cut]) || s != kept {
			t.Errorf("cut at %d", cut)
		}
		if s.Add(nil) != s || one != Begin().Add(all) {
			t.Errorf("the state itself, cut at %d", cut)
		}
	}
	s := Begin()
	for i := range all {
		s = s.Add(all[i : i+1])
	}
	if s.End() != Sum(all) {
		t.Error("byte by byte")
	}
	if (State{}).End() != Sum(nil) || (State{}) != Begin() {
		t.Error("the zero state")
	}
}

// TestKept: R3, what is handed in is neither kept nor changed.
func TestKept(t *testing.T) {
	b := some(100)
	s := Begin().Add(b)
	want := Sum(some(100))
	if !bytes.Equal(b, some(100)) {
		t.Error("changed")
	}
	clear(b)
	if s.End() != want {
		t.Error("kept")
	}
}

func BenchmarkSum(b *testing.B) {
	x := some(80)
	for b.Loop() {
		Sum(x)
	}
}
