package disk

import (
	"bytes"
	"math"
	"math/rand"
	"slices"
	"testing"

	"scantling/api"
)

func made(t *testing.T, most int) *Disk {
	d, e := New(most)
	if e != api.OK {
		t.Fatal("New", e)
	}
	return d
}

func wants(t *testing.T, what string, want api.Errno, l ...api.Errno) {
	t.Helper()
	for i, e := range l {
		if e != want {
			t.Error(what, i, e, want)
		}
	}
}

func stands(t *testing.T, d *Disk, f int, want string) {
	t.Helper()
	if b, e := d.Read(f); string(b) != want || e != api.OK {
		t.Errorf("Read %d: %q %v, not %q", f, b, e, want)
	}
}

// TestExample: the chapter's.
func TestExample(t *testing.T) {
	for _, n := range []int{0, -1, api.MaxDisk + 1, math.MaxInt} {
		if d, e := New(n); d != nil || e != api.ErrArg {
			t.Error("P11.1: New", n)
		}
	}
	made(t, 1)
	made(t, api.MaxDisk)
	d := made(t, 10)
	wants(t, "Write", api.OK, d.Write(0, []byte("abcd")))
	if d.Room() != 6 {
		t.Error("Room")
	}
	_, e := d.Read(2)
	wants(t, "Write of too much", api.ErrFull, d.Write(1, make([]byte, 7)))
	wants(t, "no file", api.ErrArg, e, d.Write(-1, nil), d.Cut(2, 0), d.Sync(9), d.Write(2, make([]byte, 100)))
	wants(t, "Off", api.OK, d.Off())
	b, e := d.Read(0)
	wants(t, "no power", api.ErrPower, e, d.Off(), d.Write(7, nil), d.Cut(0, 99), d.Sync(5), d.Fuse(1))
	if b != nil {
		t.Error("an error, and more")
	}
	wants(t, "On", api.OK, d.On(3))
	stands(t, d, 0, "abc")
	wants(t, "changes", api.OK, d.Sync(0), d.Cut(0, 1), d.Write(0, []byte("xy")), d.Off(), d.On(2))
	stands(t, d, 0, "ax")
	wants(t, "On again", api.ErrState, d.On())
	wants(t, "a fuse", api.OK, d.Fuse(1), d.Sync(0))
	wants(t, "the fuse's end", api.ErrPower, d.Sync(0), d.Off())
	wants(t, "Cut", api.OK, d.On())
	wants(t, "Cut beyond", api.ErrArg, d.Cut(0, 3), d.Cut(0, -1), d.Cut(0, math.MaxInt))
	wants(t, "Cut at its end", api.OK, d.Cut(0, 2), d.Cut(0, 0))
	stands(t, d, 0, "")
	if d.Room() != 10 {
		t.Error("Room of what stands")
	}
}

// TestFuse: P11.3.
func TestFuse(t *testing.T) {
	d := made(t, 4)
	wants(t, "fuse", api.OK, d.Fuse(2), d.Write(0, []byte("abc")))
	wants(t, "not counted", api.ErrArg, d.Cut(0, 4), d.Sync(2), d.Write(3, nil))
	wants(t, "not counted", api.ErrFull, d.Write(0, make([]byte, 2)))
	wants(t, "counted", api.OK, d.Write(1, []byte("d")))
	wants(t, "still told", api.ErrFull, d.Write(0, make([]byte, 1)))
	stands(t, d, 0, "abc")
	wants(t, "the end", api.ErrPower, d.Cut(0, 0), d.Write(0, nil))
	wants(t, "on", api.OK, d.On(9, 9))
	stands(t, d, 0, "abc")
	stands(t, d, 1, "d")
	wants(t, "no fuse", api.OK, d.Sync(0), d.Sync(0), d.Fuse(0), d.Fuse(-1), d.Sync(0), d.Fuse(0), d.Fuse(math.MinInt), d.Sync(0), d.Sync(0), d.Fuse(0))
	wants(t, "at once", api.ErrPower, d.Sync(0))
	wants(t, "on", api.OK, d.On(), d.Fuse(0), d.Off(), d.On(), d.Sync(1))
}

// TestRoom: more may stand than there is room for, where a Cut is lost.
func TestRoom(t *testing.T) {
	d := made(t, 4)
	wants(t, "do", api.OK, d.Write(0, []byte("abcd")), d.Sync(0), d.Cut(0, 0), d.Write(1, []byte("efgh")), d.Sync(1), d.Off())
	if d.Room() != 0 {
		t.Error("Room, off")
	}
	wants(t, "on", api.OK, d.On())
	stands(t, d, 0, "abcd")
	stands(t, d, 1, "efgh")
	if d.Room() != 0 {
		t.Error("Room")
	}
	wants(t, "nothing", api.OK, d.Write(0, nil))
	wants(t, "full", api.ErrFull, d.Write(0, []byte("x")))
}

// TestMemory: R3.
func TestMemory(t *testing.T) {
	d := made(t, 100)
	b := []byte("abc")
	d.Write(0, b)
	clear(b)
	stands(t, d, 0, "abc")
	r, _ := d.Read(0)
	clear(r)
	_ = append(r, "zzzz"...)
	stands(t, d, 0, "abc")
	d.Sync(0)
	d.Write(0, []byte("de"))
	r, _ = d.Read(0)
	clear(r)
	stands(t, d, 0, "abcde")
	picks := []int{1, 2}
	d.Off()
	d.On(picks...)
	stands(t, d, 0, "abcd")
	if !slices.Equal(picks, []int{1, 2}) {
		t.Error("changed")
	}
}

// TestNone: no disk.
func TestNone(t *testing.T) {
	var d *Disk
	b, e := d.Read(9)
	wants(t, "no disk", api.ErrNil, e, d.Write(9, nil), d.Cut(9, 9), d.Sync(9), d.Fuse(1), d.Off(), d.On())
	if b != nil || d.Room() != 0 {
		t.Error("no disk")
	}
}

// model is the chapter's words done plainly: loose changes one unit each.
type model struct{ sure, loose [2][]func([]byte) []byte }

func (m *model) at(f int) []byte { return done(nil, append(slices.Clone(m.sure[f]), m.loose[f]...)) }

func done(b []byte, l []func([]byte) []byte) []byte {
	for _, do := range l {
		b = do(b)
	}
	return b
}

// TestAll: P11.2 to P11.5 by chance, against the words.
func TestAll(t *testing.T) {
	r := rand.New(rand.NewSource(11))
	for range 300 {
		d, m := made(t, 60), model{}
		for range 60 {
			f := r.Intn(2)
			switch r.Intn(5) {
			case 0, 1:
				b := make([]byte, r.Intn(8))
				r.Read(b)
				if e := d.Write(f, b); e == api.OK {
					for _, x := range b {
						m.loose[f] = append(m.loose[f], func(c []byte) []byte { return append(slices.Clone(c), x) })
					}
				} else if len(m.at(0))+len(m.at(1))+len(b) <= 60 {
					t.Fatal("Write", e)
				}
			case 2:
				n := r.Intn(len(m.at(f)) + 1)
				wants(t, "Cut", api.OK, d.Cut(f, n))
				m.loose[f] = append(m.loose[f], func(c []byte) []byte { return c[:n] })
			case 3:
				wants(t, "Sync", api.OK, d.Sync(f))
				m.sure[f], m.loose[f] = append(m.sure[f], m.loose[f]...), nil
			case 4:
				picks := []int{r.Intn(12) - 2, r.Intn(12) - 2, 5}[:r.Intn(4)]
				wants(t, "power", api.OK, d.Off(), d.On(picks...))
				for g := range 2 {
					n := 0
					if g < len(picks) {
						n = min(max(picks[g], 0), len(m.loose[g]))
					}
					m.sure[g], m.loose[g] = append(m.sure[g], m.loose[g][:n]...), nil
				}
			}
			for g := range 2 {
				if b, e := d.Read(g); e != api.OK || !bytes.Equal(b, m.at(g)) {
					t.Fatalf("Read %d: %v, not %v", g, b, m.at(g))
				}
			}
			if d.Room() != max(0, 60-len(m.at(0))-len(m.at(1))) {
				t.Fatal("Room")
			}
		}
	}
}
