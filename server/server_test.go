package server

import (
	"reflect"
	"testing"

	"scantling/api"
	"scantling/header"
	"scantling/rules"
	"scantling/testchain"
)

var out, mint = testchain.Out, testchain.Mint

const (
	ping    = `{"id":1,"method":"server.ping"}` + "\n"
	pong    = `{"jsonrpc":"2.0","id":1,"result":null}` + "\n"
	headers = `{"id":2,"method":"blockchain.headers.subscribe"}` + "\n"
)

func made(t *testing.T) (*Server, *testchain.Chain) {
	c := testchain.New(testchain.Easy())
	s, e := New(c.P)
	if e != api.OK {
		t.Fatal(e)
	}
	return s, c
}

// TestBlocks: P20.1 and P20.2.
func TestBlocks(t *testing.T) {
	if s, e := New(api.Params{}); s != nil || e != api.ErrArg {
		t.Error("New")
	}
	s, c := made(t)
	if s.Height() != 0 || s.Undo() != api.ErrState {
		t.Error("a new one")
	}
	good := c.Next(mint(1, out(1, nil)))
	wrongBits, early, wrongRoot, noTxs := good, good, good, good
	wrongBits.Header.Bits--
	early.Header.Time = c.P.First.Time
	early.Header = testchain.Mined(early.Header)
	wrongRoot.Header.Root[0]++
	wrongRoot.Header = testchain.Mined(wrongRoot.Header)
	noTxs.Txs = nil
	lazy := good
	for rules.Right(c.P, c.Headers(), lazy.Header) != api.ErrWork {
		lazy.Header.Nonce++
	}
	late := good
	late.Header.Prev[0]++
	for i, k := range []struct {
		b api.Block
		e api.Errno
	}{{wrongBits, api.ErrBits}, {early, api.ErrTime}, {wrongRoot, api.ErrProof}, {noTxs, api.ErrMany}, {lazy, api.ErrWork}, {late, api.ErrPrev}, {c.Next(mint(1, out(api.MaxMoney+1, nil))), api.ErrArg}} {
		if e := s.Ingest(k.b); e != k.e || s.Height() != 0 {
			t.Error("Ingest", i, e, k.e)
		}
	}
	for range 25 {
		if e := s.Ingest(c.Grow()); e != api.OK {
			t.Fatal("Ingest", e)
		}
	}
	v, e := s.Do("blockchain.block.header", []api.Value{{Kind: api.Number, Num: 25}})
	if s.Height() != 25 || e != api.OK || len(v.Text) != 160 {
		t.Error("Do")
	}
	if s.Undo() != api.OK || s.Height() != 24 || s.Ingest(c.Blocks[25]) != api.OK || s.Ingest(c.Blocks[25]) != api.ErrPrev {
		t.Error("Undo")
	}
	p := c.P
	p.Points = []api.Point{{Height: 1, Hash: header.Id(c.Blocks[1].Header)}, {Height: 2}}
	s, _ = New(p)
	p.Points[0].Hash = api.Hash{}
	if s.Ingest(c.Blocks[1]) != api.OK || s.Ingest(c.Blocks[2]) != api.ErrPoint {
		t.Error("points")
	}
}

// TestSessions: P20.3 and P20.4.
func TestSessions(t *testing.T) {
	s, c := made(t)
	for want := range api.MaxLinks {
		if k, e := s.Open(); k != want || e != api.OK {
			t.Error("Open", k, e)
		}
	}
	if k, e := s.Open(); k != 0 || e != api.ErrFull {
		t.Error("Open of one more")
	}
	if s.Close(2) != api.OK || s.Close(5) != api.OK || s.Close(2) != api.ErrNone {
		t.Error("Close")
	}
	if k, e := s.Open(); k != 2 || e != api.OK {
		t.Error("the least number", k)
	}
	for _, k := range []int{-1, 5, 8, 1 << 40} {
		if b, e := s.Feed(k, []byte(ping)); b != nil || e != api.ErrNone {
			t.Error("Feed", k)
		}
		if s.Close(k) != api.ErrNone || s.Turn(k) != nil {
			t.Error("none", k)
		}
	}
	if b, e := s.Feed(0, []byte(ping)); string(b) != pong || e != api.OK {
		t.Error("Feed", e)
	}
	s.Feed(1, []byte(headers))
	s.Ingest(c.Grow())
	if len(s.Turn(0)) != 0 || len(s.Turn(1)) == 0 || len(s.Turn(1)) != 0 {
		t.Error("Turn")
	}
	if b, e := s.Feed(1, []byte(ping+"bad\n"+ping)); string(b) != pong || e != api.ErrFault {
		t.Error("a fault", e)
	}
	if _, e := s.Feed(1, []byte(ping)); e != api.ErrNone || s.Close(1) != api.ErrNone {
		t.Error("not open any more")
	}
	if k, e := s.Open(); k != 1 || e != api.OK {
		t.Error("its number again")
	}
	s.Ingest(c.Grow())
	if len(s.Turn(1)) != 0 {
		t.Error("a new session knows nothing")
	}
}

// TestNone: no server.
func TestNone(t *testing.T) {
	var s *Server
	v, e := s.Do("server.ping", nil)
	k, e2 := s.Open()
	b, e3 := s.Feed(0, nil)
	for i, e := range []api.Errno{e, e2, e3, s.Ingest(api.Block{}), s.Undo(), s.Close(0)} {
		if e != api.ErrNil {
			t.Error("no server", i)
		}
	}
	if s.Height() != 0 || k != 0 || b != nil || s.Turn(0) != nil || !reflect.DeepEqual(v, api.Value{}) {
		t.Error("no server")
	}
}
