// Package touch is what layers 25 and 26 share: which proven transactions touch which scripts' hashes. (Views ask that of one hash; a wallet asks it of all its own at once.)
package touch

import (
	"scantling/api"
	"scantling/sha"
)

// Histories: of each of some unlike hashes the transactions, in order, of which an output pays it, or an input is from an output that does.
func Histories(l []api.Proven, scripts ...api.Hash) [][]api.Entry {
	numbers := map[api.Hash]int{}
	for k, script := range scripts {
		numbers[script] = k
	}
	// One place may stand for several outputs, where l has one id more than once.
	paid := map[api.Place][]int{}
	outs := make([][]int, len(l))
	for i, p := range l {
		for n, o := range p.T.Outs {
			if k, is := numbers[sha.Sum(o.Script)]; is {
				at := api.Place{Tx: p.Id, N: uint32(n)}
				paid[at] = append(paid[at], k)
				outs[i] = append(outs[i], k)
			}
		}
	}
	histories := make([][]api.Entry, len(scripts))
	for i, p := range l {
		touched := map[int]bool{}
		enter := func(numbers []int) {
			for _, k := range numbers {
				if !touched[k] {
					touched[k] = true
					histories[k] = append(histories[k], api.Entry{Height: p.Height, Tx: p.Id})
				}
			}
		}
		enter(outs[i])
		for _, in := range p.T.Ins {
			enter(paid[in.From])
		}
	}
	return histories
}
