package vault

import (
	"bytes"
	"math/rand"
	"slices"
	"testing"

	"scantling/api"
	"scantling/disk"
)

func made(t *testing.T, most int) *disk.Disk {
	t.Helper()
	d, e := disk.New(most)
	if e != api.OK {
		t.Fatal("New", e)
	}
	return d
}

func opened(t *testing.T, d *disk.Disk, want ...string) *Vault {
	t.Helper()
	v, l, e := Open(d)
	if e != api.OK || !same(l, recs(want...)) || v.Len() != len(want) {
		t.Fatal("Open", l, e, want)
	}
	return v
}

func recs(l ...string) [][]byte {
	var out [][]byte
	for _, s := range l {
		out = append(out, []byte(s))
	}
	return out
}

func same(a, b [][]byte) bool { return slices.EqualFunc(a, b, bytes.Equal) }

func wants(t *testing.T, what string, want api.Errno, l ...api.Errno) {
	t.Helper()
	for i, e := range l {
		if e != want {
			t.Error(what, i, e, want)
		}
	}
}

func read(d *disk.Disk, f int) []byte {
	b, _ := d.Read(f)
	return b
}

// TestExample: the chapter's.
func TestExample(t *testing.T) {
	d := made(t, 1000)
	v := opened(t, d)
	want := slices.Concat([]byte{1, 0, 0, 0, 0, 0, 0, 0, 0, 0, 0, 0}, check([]byte{1, 0, 0, 0, 0, 0, 0, 0, 0, 0, 0, 0}))
	if v.Gen() != 1 || !bytes.Equal(read(d, 1), want) || len(read(d, 0)) != 0 {
		t.Error("P12.1: a new one")
	}
	wants(t, "Add", api.OK, v.Add(recs("ab", "c")...))
	if v.Len() != 2 || d.Room() != 881 {
		t.Error("P12.2", v.Len(), d.Room())
	}
	frame := slices.Concat([]byte{2, 0, 0, 0, 'a', 'b'}, check([]byte{1, 0, 0, 0, 0, 0, 0, 0, 0, 0, 0, 0, 0, 0, 0, 0, 2, 0, 0, 0, 'a', 'b'}))
	if !bytes.Equal(read(d, 1)[44:82], frame) {
		t.Error("a frame")
	}
	wants(t, "power", api.OK, d.Off(), d.On())
	v = opened(t, d, "ab", "c")
	wants(t, "Compact", api.OK, v.Compact(recs("d")))
	if v.Gen() != 2 || v.Len() != 1 || len(read(d, 1)) != 0 || read(d, 0)[8] != 1 {
		t.Error("P12.3")
	}
	wants(t, "fuse", api.OK, d.Fuse(1))
	wants(t, "power goes", api.ErrPower, v.Add(recs("e")...))
	wants(t, "then", api.ErrState, v.Add(), v.Add(make([]byte, api.MaxRecord+1)), v.Compact(nil))
	wants(t, "power", api.OK, d.On(36, 0))
	v = opened(t, d, "d")
	wants(t, "fuse", api.OK, d.Fuse(1))
	wants(t, "power goes", api.ErrPower, v.Add(recs("e")...))
	wants(t, "power", api.OK, d.On(37, 0))
	opened(t, d, "d", "e")
}

// TestWrong: errors, and that they turn nothing.
func TestWrong(t *testing.T) {
	var none *Vault
	wants(t, "no vault", api.ErrNil, none.Add(make([]byte, api.MaxRecord+1)), none.Compact(nil))
	if none.Gen() != 0 || none.Len() != 0 {
		t.Error("no vault")
	}
	if v, l, e := Open(nil); v != nil || l != nil || e != api.ErrNil {
		t.Error("no disk")
	}
	d := made(t, 200)
	d.Off()
	if v, l, e := Open(d); v != nil || l != nil || e != api.ErrPower {
		t.Error("off")
	}
	d.On()
	small := made(t, 43)
	if v, l, e := Open(small); v != nil || l != nil || e != api.ErrFull {
		t.Error("no room for a head", e)
	}
	v := opened(t, d)
	long := make([]byte, api.MaxRecord+1)
	wants(t, "too long", api.ErrArg, v.Add([]byte("a"), long), v.Compact([][]byte{long}))
	wants(t, "no room", api.ErrFull, v.Add(make([]byte, 200-44-36+1)), v.Add(recs("a", "b", "c", "d", "e")...), v.Compact([][]byte{make([]byte, 77)}))
	if v.Len() != 0 || d.Room() != 156 {
		t.Error("turned")
	}
	wants(t, "just room", api.OK, v.Add(make([]byte, 120)), v.Add())
	if d.Room() != 0 {
		t.Error("Room", d.Room())
	}
	wants(t, "full", api.ErrFull, v.Add(nil), v.Compact(nil))
	d.Off()
	wants(t, "no records", api.OK, v.Add())
	wants(t, "full ahead of power", api.ErrFull, v.Add(nil))
	wants(t, "power", api.ErrPower, v.Compact(nil))
	wants(t, "then", api.ErrState, v.Add(), v.Compact(nil))
	big := made(t, api.MaxDisk)
	v = opened(t, big)
	wants(t, "the longest", api.OK, v.Add(make([]byte, api.MaxRecord)), v.Compact([][]byte{make([]byte, api.MaxRecord), nil}))
	opened(t, big, string(make([]byte, api.MaxRecord)), "")
}

// TestNewSynced: P12.1, the head of a new vault is kept, whatever the power does.
func TestNewSynced(t *testing.T) {
	d := made(t, 100)
	opened(t, d)
	wants(t, "power", api.OK, d.Off(), d.On())
	if len(read(d, 1)) != 44 || len(read(d, 0)) != 0 {
		t.Error("the head is not kept")
	}
}

// TestCompactRoom: P12.3, just as much room as there must be, with what stands in the other file.
func TestCompactRoom(t *testing.T) {
	for most, want := range map[int]api.Errno{44 + 44 + 37: api.OK, 44 + 44 + 36: api.ErrFull} {
		for _, there := range []int{0, 5} {
			d := made(t, most)
			v := opened(t, d)
			wants(t, "what stands there", api.OK, d.Write(0, make([]byte, there)))
			wants(t, "Compact", want, v.Compact(recs("a")))
			if want == api.OK && (v.Gen() != 2 || v.Len() != 1 || len(read(d, 0)) != 81) || want != api.OK && len(read(d, 0)) != there {
				t.Error("Compact", most, there)
			}
		}
	}
}

// laid makes a disk with these files.
func laid(t *testing.T, zero, one []byte) *disk.Disk {
	d := made(t, 100000)
	d.Write(0, zero)
	d.Write(1, one)
	d.Sync(0)
	d.Sync(1)
	return d
}

// TestOpen: P12.1, files of all kinds.
func TestOpen(t *testing.T) {
	file := func(gen uint64, n int, l ...string) []byte {
		return slices.Concat(head(gen, n), frames(gen, 0, recs(l...)))
	}
	turned := func(b []byte, at int) []byte {
		b = bytes.Clone(b)
		b[at] ^= 1
		return b
	}
	long := slices.Concat(head(1, 0), frames(1, 0, [][]byte{make([]byte, api.MaxRecord+1)}))
	for i, c := range []struct {
		zero, one []byte
		want      []string
		gen       uint64
	}{
		{nil, file(1, 0, "a"), []string{"a"}, 1}, {file(2, 1, "b"), file(1, 0, "a"), []string{"b"}, 2}, {file(2, 1, "b"), file(3, 1, "a"), []string{"a"}, 3}, {file(2, 2, "b"), file(1, 0, "a"), []string{"a"}, 1},
		{file(2, 0)[:43], file(1, 0, "a"), []string{"a"}, 1}, {file(3, 0, "x"), file(2, 0, "y"), nil, 1}, {turned(file(2, 0), 0), nil, nil, 1}, {turned(file(2, 0), 8), nil, nil, 1}, {turned(file(2, 0), 43), nil, nil, 1},
		{file(0, 0), nil, nil, 1}, {file(1<<62, 0, "z"), file(3, 0), []string{"z"}, 1 << 62}, {nil, file(1<<62+1, 0), nil, 1}, {file(1<<63, 0), nil, nil, 1},
		{nil, turned(file(1, 0, "a", "b", "c"), 44+37+5), []string{"a"}, 1}, {nil, turned(file(1, 1, "a", "b", "c"), 44), nil, 1}, {nil, file(1, 0, "a", "b")[:44+37+36], []string{"a"}, 1},
		{nil, append(file(1, 0, "a"), 1, 2, 3), []string{"a"}, 1}, {nil, append(file(1, 0), frames(1, 1, recs("b"))...), nil, 1}, {nil, append(file(1, 0), frames(3, 0, recs("b"))...), nil, 1}, {nil, long, nil, 1}, {[]byte("x"), []byte("y"), nil, 1}, {nil, append(file(1, 0, "a"), bytes.Repeat([]byte{255}, 60)...), []string{"a"}, 1},
	} {
		d := laid(t, c.zero, c.one)
		v := opened(t, d, c.want...)
		if v.Gen() != c.gen {
			t.Error("generation", i, v.Gen())
		}
		own := int(c.gen % 2)
		if len(read(d, 1-own)) != 0 {
			t.Error("the other one", i)
		}
		kept := read(d, own)
		wants(t, "Add", api.OK, v.Add([]byte("more")))
		if !bytes.HasPrefix(read(d, own), kept) {
			t.Error("not behind", i)
		}
		d.Off()
		d.On()
		opened(t, d, append(slices.Clone(c.want), "more")...)
	}
	d := laid(t, file(1<<62, 0, "z"), nil)
	v := opened(t, d, "z")
	wants(t, "the last generation", api.ErrMany, v.Compact(nil))
	wants(t, "goes on", api.OK, v.Add(nil))
}

// TestSteps: P12.1, which steps are done, by where the power goes.
func TestSteps(t *testing.T) {
	sound := slices.Concat(head(1, 0), frames(1, 0, recs("a")))
	for i, c := range []struct {
		zero, one []byte
		steps     int
	}{{nil, nil, 2}, {[]byte("x"), nil, 3}, {[]byte("x"), []byte("y"), 4}, {nil, sound, 1}, {[]byte("x"), sound, 2}, {nil, append(bytes.Clone(sound), 1), 2}, {[]byte("x"), append(bytes.Clone(sound), 1), 3}} {
		for n := range c.steps + 1 {
			d := laid(t, c.zero, c.one)
			d.Fuse(n)
			v, l, e := Open(d)
			if n == c.steps {
				wants(t, "Open", api.OK, e)
			} else if e != api.ErrPower || v != nil || l != nil {
				t.Error("steps", i, n, e)
			}
		}
	}
	v := opened(t, made(t, 1000))
	for n, want := range []int{3, 4} {
		_ = n
		for k := range want + 1 {
			d := made(t, 1000)
			v = opened(t, d)
			if want == 4 {
				d.Write(0, []byte("x"))
			}
			d.Fuse(k)
			if e := v.Compact(nil); (e == api.OK) != (k == want) {
				t.Error("steps of Compact", k, want, e)
			}
		}
	}
}

// TestCrash: P12.5, wherever the power goes, with whatever is kept.
func TestCrash(t *testing.T) {
	r := rand.New(rand.NewSource(12))
	for round := range 1500 {
		d := made(t, 600)
		v := opened(t, d)
		sure := [][]byte{}
		for range 12 {
			var l [][]byte
			for range r.Intn(4) {
				b := make([]byte, r.Intn(20))
				r.Read(b)
				l = append(l, b)
			}
			compact := r.Intn(4) == 0
			if r.Intn(3) == 0 {
				d.Fuse(r.Intn(5))
			} else {
				d.Fuse(-1)
			}
			e := api.OK
			if compact {
				e = v.Compact(l)
			} else {
				e = v.Add(l...)
			}
			switch e {
			case api.OK:
				if compact {
					sure = nil
				}
				sure = append(sure, l...)
			case api.ErrPower:
				d.On(r.Intn(300)-10, r.Intn(300)-10)
				w, found, oe := Open(d)
				if oe != api.OK {
					t.Fatal("Open", oe)
				}
				begins := !compact && len(found) >= len(sure) && len(found) <= len(sure)+len(l) && same(found, slices.Concat(sure, l)[:len(found)])
				if !begins && !same(found, sure) && !(compact && same(found, l)) {
					t.Fatal("round", round, compact, found, sure, l)
				}
				v, sure = w, found
			case api.ErrFull:
			default:
				t.Fatal("error", e)
			}
			if v.Len() != len(sure) {
				t.Fatal("Len")
			}
		}
	}
}
