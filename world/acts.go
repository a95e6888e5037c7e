package world

import (
	"scantling/api"
	"scantling/vault"
	"scantling/wallet"
)

const (
	stranger  = -1 // where a line leads that leads to no server
	noSession = -1 // of a stranger, and of a server that closed it
)

// line leads from the wallet's link of its number to a server's session, or to a stranger.
type line struct {
	server  int
	session int
	up      []byte // under way
	down    []byte
}

// line is the one of a number, or nil.
func (w *World) line(k int) *line {
	if w == nil || k < 0 || k >= len(w.lines) {
		return nil
	}
	return w.lines[k]
}

func (w *World) ingest(a api.Act) api.Errno {
	s := w.Server(a.S)
	if s == nil {
		return api.ErrNone
	}
	return w.turn(a.S, s.Ingest(a.Block))
}

func (w *World) undo(a api.Act) api.Errno {
	s := w.Server(a.S)
	if s == nil {
		return api.ErrNone
	}
	return w.turn(a.S, s.Undo())
}

// turn lets a server's sessions tell what has turned, unless there was an error.
func (w *World) turn(s int, e api.Errno) api.Errno {
	if e != api.OK {
		return e
	}
	for _, l := range w.lines {
		if l != nil && l.server == s {
			l.down = append(l.down, w.servers[s].Turn(l.session)...)
		}
	}
	return api.OK
}

func (w *World) link(a api.Act) api.Errno {
	switch {
	case w.dead:
		return api.ErrPower
	case a.S >= 0 && w.Server(a.S) == nil:
		return api.ErrNone
	case w.line(a.K) != nil:
		return api.ErrState
	}
	told, e := w.wallet.Open(a.K)
	if e != api.OK {
		return e
	}
	l := &line{server: max(a.S, stranger), session: noSession}
	w.lines[a.K] = l
	if l.server != stranger {
		if l.session, e = w.servers[a.S].Open(); e != api.OK {
			l.session = noSession
			w.cut(a)
			return e
		}
	}
	w.send(told)
	return api.OK
}

// send puts what the wallet sends on its way; where there is no line it is lost.
func (w *World) send(told api.Told) {
	for _, s := range told.Sent {
		if l := w.line(s.K); l != nil {
			l.up = append(l.up, s.B...)
		}
	}
}

func (w *World) cut(a api.Act) api.Errno {
	l := w.line(a.K)
	if l == nil {
		return api.ErrNone
	}
	// Either may be closed already.
	w.wallet.Close(a.K)
	w.Server(l.server).Close(l.session)
	w.lines[a.K] = nil
	return api.OK
}

func (w *World) up(a api.Act) api.Errno {
	l := w.line(a.K)
	switch {
	case l == nil:
		return api.ErrNone
	case a.N < 0:
		return api.ErrArg
	}
	b := take(&l.up, a.N)
	if l.server == stranger {
		return api.OK
	}
	out, e := w.servers[l.server].Feed(l.session, b)
	if e == api.ErrFault {
		// Another session may have its number from now on.
		l.session = noSession
	}
	l.down = append(l.down, out...)
	return e
}

// take takes so many bytes from the front, or all, if there are fewer.
func take(way *[]byte, n int) []byte {
	n = min(n, len(*way))
	b := (*way)[:n]
	*way = (*way)[n:]
	return b
}

func (w *World) down(a api.Act) api.Errno {
	l := w.line(a.K)
	switch {
	case w.dead:
		return api.ErrPower
	case l == nil:
		return api.ErrNone
	case a.N < 0:
		return api.ErrArg
	}
	told, e := w.wallet.Feed(a.K, take(&l.down, a.N))
	w.send(told)
	if ke := w.keep(told.Recs); ke != api.OK {
		return ke
	}
	return e
}

// keep keeps records, if there are some.
func (w *World) keep(l [][]byte) api.Errno {
	if len(l) == 0 {
		return api.OK
	}
	e := w.vault.Add(l...)
	w.dead = e != api.OK
	return e
}

func (w *World) say(a api.Act) api.Errno {
	l := w.line(a.K)
	if l == nil || l.server != stranger {
		return api.ErrNone
	}
	l.down = append(l.down, a.B...)
	return api.OK
}

func (w *World) crash(a api.Act) api.Errno {
	// The power may be gone already.
	w.disk.Off()
	w.disk.On(a.Picks...)
	for k := range w.lines {
		w.cut(api.Act{K: k})
	}
	v, records, e := vault.Open(w.disk)
	if e != api.OK {
		w.dead = true
		return e
	}
	// One was made of these before.
	w.wallet, _ = wallet.New(w.p, w.room, w.seed, w.gap)
	w.vault, w.dead = v, false
	for _, rec := range records {
		w.wallet.Load(rec)
	}
	return api.OK
}

func (w *World) fuse(a api.Act) api.Errno { return w.disk.Fuse(a.N) }

func (w *World) compact(a api.Act) api.Errno {
	if w.dead {
		return api.ErrPower
	}
	e := w.vault.Compact(w.wallet.Records())
	w.dead = e == api.ErrPower
	return e
}
