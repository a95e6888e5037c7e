package wallet

import (
	"scantling/api"
	"scantling/gap"
)

// settle does what stands behind all that is done (P26.8), and answers what came of it; best is the best header's hash ahead of it.
func (w *Wallet) settle(best api.Hash) api.Told {
	if now, _ := w.book.Best(); now != best {
		for _, l := range w.openLines() {
			l.proveAgain()
		}
	}
	w.widen()
	for _, l := range w.openLines() {
		l.askHistories()
	}
	for _, l := range w.openLines() {
		l.send()
	}
	out := w.out
	w.out = api.Told{}
	return out
}

// openLines are the open links, rising.
func (w *Wallet) openLines() []*line {
	var l []*line
	for _, x := range w.lines {
		if x != nil {
			l = append(l, x)
		}
	}
	return l
}

// widen watches more scripts, as long as those that are used ask for it.
func (w *Wallet) widen() {
	for {
		w.look()
		var used []int
		for i, x := range w.watched {
			if len(x.history) > 0 {
				used = append(used, i)
			}
		}
		was, n := len(w.watched), gap.Watch(used, w.gap)
		if n <= was {
			return
		}
		w.watch(n)
		for _, l := range w.openLines() {
			for i := was; i < n; i++ {
				l.subscribe(i)
			}
		}
	}
}

// header adds a header to the book, and tells its record.
func (w *Wallet) header(h api.Header) api.Errno {
	rec, e := w.book.Header(h)
	w.tell(rec)
	return e
}

// prove hands what a job has to the book, and tells its record.
func (w *Wallet) prove(j *job) api.Errno {
	rec, e := w.book.Prove(j.height, j.raw, j.branch, j.at)
	w.tell(rec)
	return e
}

// tell tells a record, if there is one: the book has turned then.
func (w *Wallet) tell(rec []byte) {
	if rec != nil {
		w.stale = true
		w.out.Recs = append(w.out.Recs, rec)
	}
}
