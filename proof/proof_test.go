package proof

import (
	"bytes"
	"reflect"
	"testing"

	"scantling/api"
	"scantling/merkle"
	"scantling/sha"
	"scantling/testchain"
	"scantling/tx"
)

// TestRight: P21.1, and the chapter's examples.
func TestRight(t *testing.T) {
	a, b, c := testchain.Mint(1, testchain.Out(5, []byte("abc"))), testchain.Mint(2, testchain.Out(5, []byte("abc"))), testchain.Mint(3, testchain.Out(5, []byte("abc")))
	b.Ins[0].Witness = [][]byte{{1}}
	ids := []api.Hash{tx.Id(a), tx.Id(b), tx.Id(c)}
	root := merkle.Root(ids...)
	for k, x := range []api.Tx{a, b, c} {
		branch, _ := merkle.Branch(ids, k)
		g, id, e := Right(root, tx.Put(x), branch, k)
		if e != api.OK || id != ids[k] || !tx.Same(g, x) {
			t.Error("right", k, e)
		}
	}
	flat := testchain.Mint(1, testchain.Out(5, []byte("abcd"))) // 64 bytes
	if len(tx.Put(flat)) != 64 {
		t.Fatal("not 64 bytes", len(tx.Put(flat)))
	}
	clothed, _ := tx.Get(tx.Put(flat))
	clothed.Ins[0].Witness = [][]byte{{1, 2}}
	one, _ := merkle.Branch(ids, 1)
	third, _ := merkle.Branch(ids, 2)
	for i, k := range []struct {
		root   api.Hash
		raw    []byte
		branch []api.Hash
		at     int
		e      api.Errno
	}{
		{tx.Id(a), tx.Put(a), nil, 0, api.OK}, {tx.Id(a), tx.Put(a), nil, 1, api.ErrArg}, {tx.Id(a), tx.Put(a), nil, -1, api.ErrArg}, {tx.Id(b), tx.Put(a), nil, 0, api.ErrProof}, {api.Hash{}, make([]byte, api.MaxTx+1), make([]api.Hash, 33), -1, api.ErrMany},
		{api.Hash{}, []byte{1}, make([]api.Hash, 33), -1, api.ErrBytes}, {tx.Id(flat), tx.Put(flat), make([]api.Hash, 33), -1, api.ErrProof}, {tx.Id(flat), tx.Put(clothed), nil, 0, api.ErrProof}, {root, tx.Put(a), make([]api.Hash, 33), -1, api.ErrMany},
		{root, tx.Put(b), one, 1, api.OK}, {root, tx.Put(b), one, 0, api.ErrProof}, {root, tx.Put(b), one, 5, api.ErrArg}, {root, tx.Put(c), third, 3, api.ErrProof}, {root, tx.Put(b), one[:1], 1, api.ErrProof}, {root, append(tx.Put(b), 0), one, 1, api.ErrBytes},
	} {
		raw := bytes.Clone(k.raw)
		g, id, e := Right(k.root, k.raw, k.branch, k.at)
		if e != k.e || e != api.OK && (!reflect.DeepEqual(g, api.Tx{}) || id != api.Hash{}) {
			t.Error("Right", i, e, k.e)
		}
		if !bytes.Equal(raw, k.raw) {
			t.Error("changed", i)
		}
	}
	raw := tx.Put(a)
	g, _, _ := Right(tx.Id(a), raw, nil, 0)
	g.Outs[0].Script[0] = 'x'
	if !bytes.Equal(raw, tx.Put(a)) {
		t.Error("shared")
	}
	if _, e := merkle.Leaf(raw); e != api.OK || sha.Twice(raw) != tx.Id(a) {
		t.Error("the leaf")
	}
}
