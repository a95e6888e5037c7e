package book

import (
	"math"
	"slices"

	"scantling/api"
	"scantling/header"
	"scantling/octet"
)

// The first bytes of records.
const (
	ofHeader = 1
	ofProven = 2
)

// numSize is how many bytes a record's numbers have.
const numSize = 4

func headerRecord(h api.Header) []byte {
	return slices.Concat([]byte{ofHeader}, header.Put(h))
}

func provenRecord(p api.Proven) []byte {
	rec := octet.Put([]byte{ofProven}, uint64(p.Height), numSize)
	rec = append(rec, p.Head[:]...)
	rec = octet.Put(rec, uint64(p.At), numSize)
	rec = append(rec, byte(len(p.Branch)))
	for _, h := range p.Branch {
		rec = append(rec, h[:]...)
	}
	return append(rec, p.Raw...)
}

// taker takes parts of a record, one behind the other, up to the first that is not there.
type taker struct {
	rec []byte
	at  int
	e   api.Errno
}

func (t *taker) number(size int) int {
	if t.e != api.OK {
		return 0
	}
	n, next, e := octet.Take(t.rec, t.at, size)
	t.at, t.e = next, e
	return int(n)
}

func (t *taker) hash() api.Hash {
	var h api.Hash
	if t.e != api.OK {
		return h
	}
	b, next, e := octet.Some(t.rec, t.at, uint64(len(h)))
	copy(h[:], b)
	t.at, t.e = next, e
	return h
}

// readProven is what the record of a proven transaction says, but for its id.
func readProven(rec []byte) (api.Proven, api.Errno) {
	t := taker{rec: rec, at: 1}
	p := api.Proven{Height: t.number(numSize), Head: t.hash(), At: t.number(numSize)}
	for range t.number(1) {
		p.Branch = append(p.Branch, t.hash())
	}
	if t.e != api.OK || p.Height < 1 || p.Height > math.MaxInt32 {
		return api.Proven{}, api.ErrBytes
	}
	p.Raw = rec[t.at:]
	return p, api.OK
}
