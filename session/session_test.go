package session

import (
	"bytes"
	"math/rand"
	"strconv"
	"strings"
	"testing"

	"scantling/api"
	"scantling/header"
	"scantling/index"
	"scantling/octet"
	"scantling/sha"
	"scantling/status"
	"scantling/testchain"
)

var at, out, mint, spend = testchain.At, testchain.Out, testchain.Mint, testchain.Spend

func made() (*index.Index, *testchain.Chain) {
	c := testchain.New(testchain.Easy())
	return index.New(c.P.First), c
}

// fed feeds text, and holds what comes against want.
func fed(t *testing.T, s *Session, text, want string, e api.Errno) {
	t.Helper()
	if b, fe := s.Feed([]byte(text)); string(b) != want || fe != e {
		t.Errorf("Feed of %.200s: %.300s %v, not %.300s %v", text, b, fe, want, e)
	}
}

func answer(id int, result string) string {
	return `{"jsonrpc":"2.0","id":` + strconv.Itoa(id) + `,"result":` + result + "}\n"
}

func refuse(id int, e api.Errno) string {
	return `{"jsonrpc":"2.0","id":` + strconv.Itoa(id) + `,"error":{"code":` + strconv.Itoa(int(e)) + `,"message":""}}` + "\n"
}

func tip(x *index.Index) string {
	h, _ := x.Header(x.Height())
	return `{"height":` + strconv.Itoa(x.Height()) + `,"hex":"` + octet.Hex(header.Put(h)) + `"}`
}

func hashOf(s string) string { return octet.Turned(sha.Sum([]byte(s))) }

func ask(id int, method string, params string) string {
	return `{"id":` + strconv.Itoa(id) + `,"method":"` + method + `","params":[` + params + "]}\n"
}

// TestFeed: P19.1 and P19.2.
func TestFeed(t *testing.T) {
	x, _ := made()
	s := New(x)
	if s.Closed() {
		t.Error("closed")
	}
	fed(t, s, `{"id":1,"method":"server.ping"}`+"\n", answer(1, "null"), api.OK)
	fed(t, s, ask(2, "server.ping", "1")+ask(3, "x", "")+ask(4, "blockchain.block.header", "9"), refuse(2, api.ErrArg)+refuse(3, api.ErrMethod)+refuse(4, api.ErrNone), api.OK)
	fed(t, s, `{"method":"server.ping"}`+"\n", "", api.OK)
	fed(t, s, "", "", api.OK)
	fed(t, s, ask(1, "blockchain.headers.subscribe", "")+`{"id":1,"method":"ser`, answer(1, tip(x)), api.OK)
	fed(t, s, `ver.ping"}`+"\n", answer(1, "null"), api.OK)
	if b := s.Turn(); len(b) != 0 {
		t.Error("Turn")
	}
	for _, bad := range []string{"x", "", `{"id":1,"result":1}`, `{"id":1,"error":{"code":1,"message":""}}`, `[[[[[[[[[`, `{"id":-1,"method":"a"}`} {
		s := New(x)
		fed(t, s, ask(1, "blockchain.headers.subscribe", "")+bad+"\n"+ask(2, "server.ping", ""), answer(1, tip(x)), api.ErrFault)
		if !s.Closed() || s.Turn() != nil {
			t.Error("not closed", bad)
		}
		fed(t, s, ask(2, "server.ping", ""), "", api.ErrState)
		fed(t, s, "", "", api.ErrState)
	}
	s = New(x)
	fed(t, s, ask(1, "server.ping", "")+strings.Repeat(" ", api.MaxLine+1), answer(1, "null"), api.ErrFault)
	s = New(x)
	fed(t, s, strings.Repeat(" ", api.MaxLine), "", api.OK)
	fed(t, s, "x", "", api.ErrFault)
	if !s.Closed() {
		t.Error("not closed")
	}
}

// TestNone: no session.
func TestNone(t *testing.T) {
	var s *Session
	if New(nil) != nil || !s.Closed() || s.Turn() != nil {
		t.Error("no session")
	}
	if b, e := s.Feed(nil); b != nil || e != api.ErrNil {
		t.Error("no session")
	}
}

// TestTurn: P19.3.
func TestTurn(t *testing.T) {
	x, c := made()
	s := New(x)
	turns := func(want string) {
		t.Helper()
		if b := s.Turn(); string(b) != want {
			t.Errorf("Turn: %s, not %s", b, want)
		}
		if b := s.Turn(); len(b) != 0 {
			t.Errorf("Turn again: %s", b)
		}
	}
	header := func() string {
		return `{"jsonrpc":"2.0","method":"blockchain.headers.subscribe","params":[` + tip(x) + "]}\n"
	}
	script := func(name string) string {
		word := "null"
		if l := x.History(sha.Sum([]byte(name))); len(l) > 0 {
			word = `"` + status.Of(l) + `"`
		}
		return `{"jsonrpc":"2.0","method":"blockchain.scripthash.subscribe","params":["` + hashOf(name) + `",` + word + "]}\n"
	}
	x.Push(c.Grow())
	turns("")
	fed(t, s, ask(1, "blockchain.scripthash.subscribe", `"`+hashOf("b")+`"`), answer(1, "null"), api.OK)
	fed(t, s, ask(2, "blockchain.scripthash.subscribe", `"`+hashOf("a")+`"`), answer(2, "null"), api.OK)
	m := mint(5, out(50, []byte("a")), out(6, []byte("b")))
	x.Push(c.Grow(m))
	turns(script("b") + script("a"))
	fed(t, s, ask(3, "blockchain.headers.subscribe", ""), answer(3, tip(x)), api.OK)
	turns("")
	x.Push(c.Grow(spend([]api.Out{out(1, []byte("c"))}, at(m, 0))))
	turns(header() + script("a"))
	x.Push(c.Grow())
	turns(header())
	x.Pop()
	x.Pop()
	turns(header() + script("a"))
	x.Pop()
	x.Push(c.Blocks[2])
	turns("")
	x.Pop()
	turns(header() + script("b") + script("a"))
	// Asked again: told last, and its place stays.
	x.Push(c.Blocks[2])
	fed(t, s, ask(4, "blockchain.scripthash.subscribe", `"`+hashOf("b")+`"`), answer(4, `"`+status.Of(x.History(sha.Sum([]byte("b"))))+`"`), api.OK)
	turns(header() + script("a"))
	x.Pop()
	turns(header() + script("b") + script("a"))
	fed(t, s, ask(5, "blockchain.scripthash.subscribe", `"00"`), refuse(5, api.ErrArg), api.OK)
}

// TestMany: more scripts than may be, and an answer that is too long.
func TestMany(t *testing.T) {
	x, c := made()
	s := New(x)
	sub := func(n int) string {
		return ask(n, "blockchain.scripthash.subscribe", `"`+hashOf(strconv.Itoa(n))+`"`)
	}
	for n := range api.MaxSubs {
		fed(t, s, sub(n), answer(n, "null"), api.OK)
	}
	fed(t, s, sub(256)+sub(0)+sub(257), refuse(256, api.ErrMany)+answer(0, "null")+refuse(257, api.ErrMany), api.OK)
	x.Push(c.Grow(mint(3, out(1, []byte("256")), out(1, []byte("255")))))
	if b := s.Turn(); strings.Count(string(b), "\n") != 1 || !strings.Contains(string(b), hashOf("255")) {
		t.Error("a refused one is told")
	}
	for n := range 760 {
		x.Push(c.Grow(mint(uint32(n+10), out(1, []byte("many")))))
	}
	fed(t, s, ask(9, "blockchain.scripthash.get_history", `"`+hashOf("many")+`"`)+ask(10, "server.ping", ""), refuse(9, api.ErrMany)+answer(10, "null"), api.OK)
}

// TestParts: P19.4.
func TestParts(t *testing.T) {
	r := rand.New(rand.NewSource(19))
	x, _ := made()
	all := []byte(ask(1, "server.ping", "") + ask(2, "blockchain.headers.subscribe", "") + ask(3, "x", "") + `{"method":"y"}` + "\n" + ask(1, "server.ping", "") + "bad\n" + ask(7, "server.ping", ""))
	whole := New(x)
	want, we := whole.Feed(all)
	for range 50 {
		s := New(x)
		var got []byte
		e := api.OK
		for rest := all; len(rest) > 0 && e == api.OK; {
			n := 1 + r.Intn(len(rest))
			var b []byte
			b, e = s.Feed(rest[:n])
			got, rest = append(got, b...), rest[n:]
		}
		if !bytes.Equal(got, want) || e != we || e != api.ErrFault {
			t.Error("parts", e)
		}
	}
}
