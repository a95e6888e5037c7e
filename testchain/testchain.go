// Package testchain makes chains of right blocks by a short rule, for the tests of the layers that need one.
package testchain

import (
	"math"
	"slices"

	"scantling/api"
	"scantling/header"
	"scantling/merkle"
	"scantling/rules"
	"scantling/target"
	"scantling/tx"
)

// Easy are parameters with which about every second hash has its work.
func Easy() api.Params {
	return api.Params{Limit: 0x207fffff, Interval: 10, Spacing: 10, First: api.Header{Version: 1, Bits: 0x207fffff, Time: 100}}
}

// Chain is a row of blocks that grows.
type Chain struct {
	P      api.Params
	Blocks []api.Block
}

// New: a chain of the first header alone.
func New(p api.Params) *Chain {
	return &Chain{P: p, Blocks: []api.Block{{Header: p.First}}}
}

// Fork: the same chain up to a height, to go on in another way.
func (c *Chain) Fork(height int) *Chain {
	return &Chain{P: c.P, Blocks: slices.Clone(c.Blocks[:height+1])}
}

// Headers: those of its blocks.
func (c *Chain) Headers() []api.Header {
	var l []api.Header
	for _, b := range c.Blocks {
		l = append(l, b.Header)
	}
	return l
}

// Out: an output.
func Out(value uint64, script []byte) api.Out { return api.Out{Value: value, Script: script} }

// Mint: a coinbase of these outputs; tag makes it unlike others.
func Mint(tag uint32, outs ...api.Out) api.Tx {
	return api.Tx{Version: 1, Ins: []api.In{{From: api.Place{N: math.MaxUint32}, Seq: tag}}, Outs: outs}
}

// Spend: a transaction from some places.
func Spend(outs []api.Out, from ...api.Place) api.Tx {
	t := api.Tx{Version: 2, Outs: outs}
	for _, at := range from {
		t.Ins = append(t.Ins, api.In{From: at, Seq: math.MaxUint32})
	}
	return t
}

// At: the place of a transaction's output.
func At(t api.Tx, n uint32) api.Place { return api.Place{Tx: tx.Id(t), N: n} }

// Next: a block of these transactions that may stand behind; it is not put there.
func (c *Chain) Next(txs ...api.Tx) api.Block {
	l := c.Headers()
	last := l[len(l)-1]
	var ids []api.Hash
	for _, t := range txs {
		ids = append(ids, tx.Id(t))
	}
	h := api.Header{Version: 1, Prev: header.Id(last), Root: merkle.Root(ids...), Time: last.Time + c.P.Spacing, Bits: rules.Bits(c.P, l)}
	return api.Block{Header: Mined(h), Txs: txs}
}

// Grow: a block more of these transactions behind a coinbase of nothing, or of them alone, if the first one is a coinbase.
func (c *Chain) Grow(txs ...api.Tx) api.Block {
	if len(txs) == 0 || !tx.Mint(txs[0]) {
		txs = append([]api.Tx{Mint(uint32(len(c.Blocks)), Out(0, []byte("none")))}, txs...)
	}
	b := c.Next(txs...)
	c.Blocks = append(c.Blocks, b)
	return b
}

// Mined: the header with a nonce with which it has its work.
func Mined(h api.Header) api.Header {
	t, _ := target.Of(h.Bits)
	for !target.Meets(header.Id(h), t) {
		h.Nonce++
	}
	return h
}
