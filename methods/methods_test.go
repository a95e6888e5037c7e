package methods

import (
	"math"
	"reflect"
	"strconv"
	"strings"
	"testing"

	"scantling/api"
	"scantling/header"
	"scantling/index"
	"scantling/json"
	"scantling/merkle"
	"scantling/octet"
	"scantling/sha"
	"scantling/status"
	"scantling/testchain"
	"scantling/tx"
)

var at, out, mint, spend = testchain.At, testchain.Out, testchain.Mint, testchain.Spend

// print is a value as text.
func print(t *testing.T, v api.Value) string {
	t.Helper()
	b, e := json.Print(v)
	if e != api.OK {
		t.Error("can't be printed", v)
	}
	return string(b)
}

// quoted is a hash as a text in quotes.
func quoted(h api.Hash) string { return `"` + octet.Turned(h) + `"` }

func num(n int) string { return strconv.Itoa(n) }

// made is an index of the chapter's kind: a script that is paid twice, and spent from once.
func made(t *testing.T) (*index.Index, *testchain.Chain, api.Tx, api.Tx) {
	c := testchain.New(testchain.Easy())
	x := index.New(c.P.First)
	m := mint(1, out(50, []byte("s")))
	y := spend([]api.Out{out(30, []byte("s")), out(20, []byte("u"))}, at(m, 0))
	for _, b := range []api.Block{c.Grow(m), c.Grow(), c.Grow(y)} {
		if e := x.Push(b); e != api.OK {
			t.Fatal(e)
		}
	}
	return x, c, m, y
}

// TestAnswers: P18.1, each method.
func TestAnswers(t *testing.T) {
	x, c, m, y := made(t)
	s := sha.Sum([]byte("s"))
	hex := func(n int) string { return octet.Hex(header.Put(c.Blocks[n].Header)) }
	root, _ := merkle.Branch([]api.Hash{tx.Id(c.Blocks[3].Txs[0]), tx.Id(y)}, 1)
	for _, k := range []struct{ method, params, want string }{
		{"server.version", `["a","b"]`, `["scantling","1.4"]`}, {"server.ping", `[]`, `null`},
		{"blockchain.block.header", `[2]`, `"` + hex(2) + `"`}, {"blockchain.block.header", `[0]`, `"` + hex(0) + `"`}, {"blockchain.block.headers", `[0,2]`, `{"count":2,"hex":"` + hex(0) + hex(1) + `","max":100}`},
		{"blockchain.block.headers", `[3,9223372036854775807]`, `{"count":1,"hex":"` + hex(3) + `","max":100}`}, {"blockchain.block.headers", `[4,5]`, `{"count":0,"hex":"","max":100}`}, {"blockchain.block.headers", `[1,0]`, `{"count":0,"hex":"","max":100}`},
		{"blockchain.block.headers", `[9223372036854775807,9223372036854775807]`, `{"count":0,"hex":"","max":100}`},
		{"blockchain.headers.subscribe", `[]`, `{"height":3,"hex":"` + hex(3) + `"}`}, {"blockchain.scripthash.get_balance", `[` + quoted(s) + `]`, `{"confirmed":30,"unconfirmed":0}`},
		{"blockchain.scripthash.get_history", `[` + quoted(s) + `]`, `[{"height":1,"tx_hash":` + quoted(tx.Id(m)) + `},{"height":3,"tx_hash":` + quoted(tx.Id(y)) + `}]`},
		{"blockchain.scripthash.listunspent", `[` + quoted(sha.Sum([]byte("u"))) + `]`, `[{"height":3,"tx_hash":` + quoted(tx.Id(y)) + `,"tx_pos":1,"value":20}]`},
		{"blockchain.scripthash.subscribe", `[` + quoted(s) + `]`, `"` + status.Of(x.History(s)) + `"`}, {"blockchain.transaction.get", `[` + quoted(tx.Id(y)) + `]`, `"` + octet.Hex(tx.Put(y)) + `"`},
		{"blockchain.transaction.get_merkle", `[` + quoted(tx.Id(y)) + `,3]`, `{"block_height":3,"merkle":[` + quoted(root[0]) + `],"pos":1}`}, {"blockchain.transaction.get_merkle", `[` + quoted(tx.Id(m)) + `,1]`, `{"block_height":1,"merkle":[],"pos":0}`},
		{"blockchain.scripthash.get_history", `[` + quoted(api.Hash{}) + `]`, `[]`}, {"blockchain.scripthash.listunspent", `[` + quoted(api.Hash{}) + `]`, `[]`}, {"blockchain.scripthash.subscribe", `[` + quoted(api.Hash{}) + `]`, `null`}, {"blockchain.scripthash.get_balance", `[` + quoted(api.Hash{}) + `]`, `{"confirmed":0,"unconfirmed":0}`},
	} {
		params, _ := json.Parse([]byte(k.params))
		v, e := Do(x, k.method, params.Kids)
		if e != api.OK || print(t, v) != k.want {
			t.Errorf("%s %s: %v %s, not %s", k.method, k.params, e, print(t, v), k.want)
		}
	}
}

// TestErrors: P18.1, what is refused.
func TestErrors(t *testing.T) {
	x, _, m, _ := made(t)
	id := quoted(tx.Id(m))
	upper := strings.ToUpper(id)
	for _, k := range []struct {
		method string
		params string
		e      api.Errno
	}{
		{"server.version", `[]`, api.ErrArg}, {"server.version", `["a"]`, api.ErrArg}, {"server.version", `["a","b","c"]`, api.ErrArg}, {"server.version", `["a",1]`, api.ErrArg}, {"server.version", `["a",null]`, api.ErrArg}, {"server.ping", `[null]`, api.ErrArg}, {"server.ping", `[1]`, api.ErrArg},
		{"blockchain.block.header", `[]`, api.ErrArg}, {"blockchain.block.header", `["1"]`, api.ErrArg}, {"blockchain.block.header", `[true]`, api.ErrArg}, {"blockchain.block.header", `[4]`, api.ErrNone}, {"blockchain.block.header", `[-1]`, api.ErrNone}, {"blockchain.block.header", `[-9223372036854775808]`, api.ErrNone}, {"blockchain.block.header", `[1,1]`, api.ErrArg},
		{"blockchain.block.headers", `[0]`, api.ErrArg}, {"blockchain.block.headers", `[-1,5]`, api.ErrArg}, {"blockchain.block.headers", `[0,-1]`, api.ErrArg}, {"blockchain.block.headers", `[0,"1"]`, api.ErrArg}, {"blockchain.block.headers", `[0,1,0]`, api.ErrArg}, {"blockchain.headers.subscribe", `[1]`, api.ErrArg},
		{"blockchain.scripthash.get_balance", `[]`, api.ErrArg}, {"blockchain.scripthash.get_history", `[1]`, api.ErrArg}, {"blockchain.scripthash.listunspent", `["00"]`, api.ErrArg}, {"blockchain.scripthash.subscribe", `[` + id + `,` + id + `]`, api.ErrArg}, {"blockchain.scripthash.subscribe", `[[` + id + `]]`, api.ErrArg}, {"blockchain.transaction.get", `[` + upper + `]`, api.ErrArg},
		{"blockchain.transaction.get", `["` + strings.Repeat("0", 64) + `"]`, api.ErrNone}, {"blockchain.transaction.get", `[` + id + `,true]`, api.ErrArg}, {"blockchain.transaction.get_merkle", `[` + id + `]`, api.ErrArg}, {"blockchain.transaction.get_merkle", `[1,` + id + `]`, api.ErrArg}, {"blockchain.transaction.get_merkle", `[` + id + `,"1"]`, api.ErrArg}, {"blockchain.transaction.get_merkle", `[` + id + `,2]`, api.ErrNone},
		{"blockchain.transaction.get_merkle", `[` + id + `,-1]`, api.ErrNone}, {"blockchain.transaction.get_merkle", `["` + strings.Repeat("0", 64) + `",0]`, api.ErrNone}, {"", `[]`, api.ErrMethod}, {"server.Ping", `[]`, api.ErrMethod}, {"blockchain.block", `[1]`, api.ErrMethod},
	} {
		params, e := json.Parse([]byte(k.params))
		if e != api.OK {
			t.Fatal(k.params)
		}
		v, e := Do(x, k.method, params.Kids)
		if e != k.e || !reflect.DeepEqual(v, api.Value{}) {
			t.Error(k.method, k.params, e, k.e)
		}
		if _, e := Do(nil, k.method, params.Kids); e != api.ErrNil {
			t.Error("no index")
		}
	}
	object := api.Value{Kind: api.Object, Text: strings.Trim(id, `"`)}
	if _, e := Do(x, "blockchain.transaction.get", []api.Value{object}); e != api.ErrArg {
		t.Error("another kind of value")
	}
	if _, e := Do(x, "blockchain.block.header", []api.Value{{Kind: api.Number, Num: math.MaxInt64}}); e != api.ErrNone {
		t.Error("far above")
	}
}

// TestMany: MaxChunk headers at most.
func TestMany(t *testing.T) {
	c := testchain.New(testchain.Easy())
	x := index.New(c.P.First)
	for n := range 105 {
		if e := x.Push(c.Grow()); e != api.OK {
			t.Fatal(n, e)
		}
	}
	v, e := Do(x, "blockchain.block.headers", []api.Value{ofNumber(3), ofNumber(200)})
	count, _ := json.Field(v, "count")
	hex, _ := json.Field(v, "hex")
	if e != api.OK || count.Num != api.MaxChunk || hex.Text != octet.Hex(header.Row(c.Headers()[3:103]...)) {
		t.Error("a chunk", count, num(len(hex.Text)))
	}
}
