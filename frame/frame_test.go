package frame

import (
	"bytes"
	"math/rand"
	"testing"

	"scantling/api"
)

func full(n int) []byte { return bytes.Repeat([]byte{7}, n) }

func same(a [][]byte, b ...string) bool {
	if len(a) != len(b) {
		return false
	}
	for i := range a {
		if string(a[i]) != b[i] {
			return false
		}
	}
	return true
}

// TestLines: P5.1 and P5.2 in the chapter's example.
func TestLines(t *testing.T) {
	f := New()
	if l, e := f.Feed([]byte("ab")); len(l) != 0 || e != api.OK || f.Held() != 2 {
		t.Error("a part")
	}
	if l, e := f.Feed([]byte("c\n\nd")); !same(l, "abc", "") || e != api.OK || f.Held() != 1 || f.Over() {
		t.Error("ends")
	}
	if l, e := f.Feed(nil); len(l) != 0 || e != api.OK || f.Held() != 1 {
		t.Error("nothing")
	}
	if l, e := f.Feed([]byte("\n\r\n")); !same(l, "d", "\r") || e != api.OK || f.Held() != 0 {
		t.Error("other bytes")
	}
}

// TestOver: the greatest line, and one byte more, in one part and in several.
func TestOver(t *testing.T) {
	f := New()
	if l, e := f.Feed(full(api.MaxLine)); len(l) != 0 || e != api.OK || f.Held() != api.MaxLine || f.Over() {
		t.Error("what has room")
	}
	if l, e := f.Feed([]byte{10}); !same(l, string(full(api.MaxLine))) || e != api.OK || f.Held() != 0 {
		t.Error("its end")
	}
	if l, e := f.Feed(full(api.MaxLine + 1)); len(l) != 0 || e != api.ErrMany || f.Held() != 0 || !f.Over() {
		t.Error("one more")
	}
	for _, b := range [][]byte{{10}, nil, []byte("a\n")} {
		if l, e := f.Feed(b); len(l) != 0 || e != api.ErrMany || f.Held() != 0 || !f.Over() {
			t.Error("over", b)
		}
	}
	f = New()
	f.Feed(full(5))
	b := append([]byte("a\nb\n"), full(api.MaxLine+1)...)
	if l, e := f.Feed(append(b, "\nc\n"...)); !same(l, string(full(5))+"a", "b") || e != api.ErrMany || !f.Over() {
		t.Error("lines ahead of it")
	}
	f = New()
	f.Feed(full(api.MaxLine))
	if l, e := f.Feed([]byte("x\n")); len(l) != 0 || e != api.ErrMany {
		t.Error("by parts")
	}
}

// TestParts: P5.3.
func TestParts(t *testing.T) {
	r := rand.New(rand.NewSource(5))
	for range 60 {
		var all []byte
		for range r.Intn(12) {
			all = append(all, full([]int{0, 1, 5, 70, api.MaxLine - 1, api.MaxLine}[r.Intn(6)])...)
			if r.Intn(4) > 0 {
				all = append(all, 10)
			}
		}
		whole := New()
		want, we := whole.Feed(all)
		f := New()
		var got [][]byte
		e := api.OK
		for rest := all; len(rest) > 0; {
			n := 1 + r.Intn(len(rest))
			var l [][]byte
			l, e = f.Feed(rest[:n])
			got = append(got, l...)
			rest = rest[n:]
			if f.Held() > api.MaxLine {
				t.Error("holds too much")
			}
		}
		if len(got) != len(want) || e != we || f.Held() != whole.Held() || f.Over() != whole.Over() {
			t.Error("parts", len(got), len(want), e, we)
		}
		for i := range min(len(got), len(want)) {
			if !bytes.Equal(got[i], want[i]) {
				t.Error("line", i)
			}
		}
	}
}

// TestMemory: lines are their own memory, and nothing handed in is kept.
func TestMemory(t *testing.T) {
	f := New()
	b := []byte("ab\ncd\nef")
	l, _ := f.Feed(b)
	if string(b) != "ab\ncd\nef" {
		t.Error("changed")
	}
	clear(b)
	_ = append(l[0], "xxxxxxxxxxxx"...)
	if !same(l, "ab", "cd") {
		t.Error("shared")
	}
	if m, _ := f.Feed([]byte("\n")); !same(m, "ef") {
		t.Error("kept")
	}
}

// TestNone: no framer.
func TestNone(t *testing.T) {
	var f *Framer
	if l, e := f.Feed([]byte("a\n")); l != nil || e != api.ErrNil || f.Held() != 0 || f.Over() {
		t.Error("no framer")
	}
}
