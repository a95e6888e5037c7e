// Package coins is what layers 15 and 16 share: which outputs are there behind a row of blocks, whether one block more may stand behind them (P15.1), and which scripts' hashes its transactions touch.
package coins

import (
	"slices"

	"scantling/api"
	"scantling/header"
	"scantling/merkle"
	"scantling/sha"
	"scantling/tx"
)

// Coin is an output that is there.
type Coin struct {
	Value  uint64
	Script api.Hash // sha.Sum of its script
}

// Set is what is there behind a row of blocks.
type Set struct {
	coins map[api.Place]Coin
	ids   map[api.Hash]bool
	begun bool
	last  api.Hash // the last header's id
}

// Step is what one block has turned.
type Step struct {
	Ids     []api.Hash
	Touched [][]api.Hash // of each transaction, each hash once
	Undo    []func()     // to be called from the last one on
}

// New: behind no blocks.
func New() *Set {
	return &Set{coins: map[api.Place]Coin{}, ids: map[api.Hash]bool{}}
}

// Find: the output of a place, if it is there.
func (s *Set) Find(at api.Place) (Coin, bool) {
	c, is := s.coins[at]
	return c, is
}

// Push: one block more; with an error nothing is turned.
func (s *Set) Push(b api.Block) (Step, api.Errno) {
	step, e := s.push(b)
	if e != api.OK {
		step.Back()
		return Step{}, e
	}
	begun, last := s.begun, s.last
	step.Undo = append(step.Undo, func() { s.begun, s.last = begun, last })
	s.begun, s.last = true, header.Id(b.Header)
	return step, api.OK
}

// Back turns all back.
func (step Step) Back() {
	for _, undo := range slices.Backward(step.Undo) {
		undo()
	}
}

func (s *Set) push(b api.Block) (Step, api.Errno) {
	var step Step
	switch {
	case s.begun && b.Header.Prev != s.last:
		return step, api.ErrPrev
	case !s.begun && len(b.Txs) == 0:
		return step, api.OK
	case len(b.Txs) == 0 || len(b.Txs) > api.MaxTxs:
		return step, api.ErrMany
	}
	for _, t := range b.Txs {
		step.Ids = append(step.Ids, tx.Id(t))
	}
	if merkle.Root(step.Ids...) != b.Header.Root {
		return step, api.ErrProof
	}
	for i, t := range b.Txs {
		if !tx.May(t) || tx.Mint(t) != (i == 0) {
			return step, api.ErrArg
		}
		if !s.fits(t, step.Ids[i]) {
			return step, api.ErrSpent
		}
		s.apply(t, step.Ids[i], &step)
	}
	return step, api.OK
}

// fits says whether a transaction is new, and its inputs are there, and come to its outputs.
func (s *Set) fits(t api.Tx, id api.Hash) bool {
	switch {
	case s.ids[id]:
		return false
	case tx.Mint(t):
		return true
	}
	var in, out uint64
	for _, x := range t.Ins {
		c, is := s.coins[x.From]
		if !is {
			return false
		}
		in += c.Value
	}
	for _, o := range t.Outs {
		out += o.Value
	}
	return in >= out
}

// apply takes a transaction's inputs away, and puts its outputs there.
func (s *Set) apply(t api.Tx, id api.Hash, step *Step) {
	spent := map[api.Place]Coin{}
	var touched []api.Hash
	seen := map[api.Hash]bool{}
	touch := func(script api.Hash) {
		if !seen[script] {
			seen[script] = true
			touched = append(touched, script)
		}
	}
	for _, x := range t.Ins {
		if c, is := s.coins[x.From]; is {
			spent[x.From] = c
			touch(c.Script)
			delete(s.coins, x.From)
		}
	}
	for i, o := range t.Outs {
		c := Coin{Value: o.Value, Script: sha.Sum(o.Script)}
		s.coins[api.Place{Tx: id, N: uint32(i)}] = c
		touch(c.Script)
	}
	s.ids[id] = true
	outs := len(t.Outs)
	step.Touched = append(step.Touched, touched)
	step.Undo = append(step.Undo, func() {
		delete(s.ids, id)
		for i := range outs {
			delete(s.coins, api.Place{Tx: id, N: uint32(i)})
		}
		for at, c := range spent {
			s.coins[at] = c
		}
	})
}
