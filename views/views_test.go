package views

import (
	"math"
	"math/rand"
	"slices"
	"testing"

	"scantling/api"
	"scantling/ledger"
	"scantling/sha"
	"scantling/testchain"
	"scantling/touch"
	"scantling/tx"
)

var at, out, mint, spend = testchain.At, testchain.Out, testchain.Mint, testchain.Spend

func proven(height int, t api.Tx) api.Proven {
	return api.Proven{Height: height, Id: tx.Id(t), T: t}
}

func entry(height int, t api.Tx) api.Entry { return api.Entry{Height: height, Tx: tx.Id(t)} }

// TestExample: P25.1 and P25.2.
func TestExample(t *testing.T) {
	c := mint(1, out(50, []byte("s")))
	x := spend([]api.Out{out(30, []byte("s")), out(20, []byte("u"))}, at(c, 0))
	s, u := sha.Sum([]byte("s")), sha.Sum([]byte("u"))
	l := []api.Proven{proven(1, c), proven(2, x)}
	if h := History(l, s); !slices.Equal(h, []api.Entry{entry(1, c), entry(2, x)}) {
		t.Error("History", h)
	}
	want := []api.Unspent{{At: at(x, 0), Value: 30, Height: 2}}
	if h := Unspents(l, s); !slices.Equal(h, want) {
		t.Error("Unspents", h)
	}
	if h := History(l[1:], s); !slices.Equal(h, []api.Entry{entry(2, x)}) || !slices.Equal(Unspents(l[1:], s), want) {
		t.Error("of t alone")
	}
	if h := History(l, u); !slices.Equal(h, []api.Entry{entry(2, x)}) || Balance(l, u) != 20 || Balance(l, s) != 30 {
		t.Error("of u")
	}
	if len(History(nil, s)) != 0 || len(Unspents(nil, s)) != 0 || Balance(nil, s) != 0 || len(History(l, api.Hash{})) != 0 {
		t.Error("of none")
	}
	// The order is that of l, whatever stands ahead of what.
	y := spend([]api.Out{out(30, nil)}, at(x, 0))
	back := []api.Proven{proven(7, y), proven(2, x), proven(1, c)}
	if h := History(back, s); !slices.Equal(h, []api.Entry{entry(7, y), entry(2, x), entry(1, c)}) || len(Unspents(back, s)) != 0 {
		t.Error("an order", h)
	}
	many := api.Proven{Height: 3, Id: api.Hash{9}, T: api.Tx{Outs: []api.Out{out(math.MaxUint64, []byte("s")), out(1, nil), out(3, []byte("s"))}}}
	if Balance([]api.Proven{many}, s) != 2 || !slices.Equal(Unspents([]api.Proven{many}, s), []api.Unspent{{At: api.Place{Tx: api.Hash{9}}, Value: math.MaxUint64, Height: 3}, {At: api.Place{Tx: api.Hash{9}, N: 2}, Value: 3, Height: 3}}) || len(History([]api.Proven{many}, s)) != 1 {
		t.Error("several outputs, and a sum that goes round")
	}
	// Two of one id.
	other := api.Proven{Height: 4, Id: api.Hash{9}, T: api.Tx{Outs: []api.Out{out(5, []byte("u"))}}}
	from := api.Proven{Height: 5, Id: api.Hash{8}, T: spend(nil, api.Place{Tx: api.Hash{9}})}
	for _, script := range []api.Hash{s, u} {
		if h := History([]api.Proven{many, other, from}, script); len(h) != 2 || h[1].Height != 5 {
			t.Error("two of one id", h)
		}
	}
}

// TestLedger: P25.3 by chance, and that all histories at once are those of each.
func TestLedger(t *testing.T) {
	r := rand.New(rand.NewSource(25))
	scripts := [][]byte{[]byte("a"), []byte("b"), []byte("c"), []byte("x"), []byte("y")}
	var hashes []api.Hash
	for _, s := range scripts {
		hashes = append(hashes, sha.Sum(s))
	}
	own := hashes[:3]
	for range 30 {
		c := testchain.New(testchain.Easy())
		for tag := range 12 {
			txs := []api.Tx{mint(uint32(tag+1), out(uint64(r.Intn(100)), scripts[r.Intn(5)]))}
			var free []api.Unspent
			for _, h := range hashes {
				free = append(free, ledger.Unspents(c.Blocks, h)...)
			}
			r.Shuffle(len(free), func(i, j int) { free[i], free[j] = free[j], free[i] })
			for _, u := range free[:min(r.Intn(4), len(free))] {
				txs = append(txs, spend([]api.Out{out(u.Value/2, scripts[r.Intn(5)]), out(u.Value/2, scripts[r.Intn(5)])}, u.At))
			}
			c.Grow(txs...)
		}
		touches := map[api.Hash]bool{}
		for _, h := range own {
			for _, x := range ledger.History(c.Blocks, h) {
				touches[x.Tx] = true
			}
		}
		var l []api.Proven
		for height, b := range c.Blocks {
			for _, x := range b.Txs {
				if touches[tx.Id(x)] {
					l = append(l, proven(height, x))
				}
			}
		}
		all := touch.Histories(l, own...)
		for k, h := range own {
			if !slices.Equal(History(l, h), ledger.History(c.Blocks, h)) || !slices.Equal(Unspents(l, h), ledger.Unspents(c.Blocks, h)) || Balance(l, h) != ledger.Balance(c.Blocks, h) || !slices.Equal(all[k], History(l, h)) {
				t.Fatal("P25.3")
			}
		}
	}
}
