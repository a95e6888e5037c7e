package script

import (
	"math"
	"math/rand"
	"reflect"
	"strconv"
	"strings"
	"testing"

	"scantling/api"
	"scantling/gap"
	"scantling/header"
	"scantling/octet"
	"scantling/status"
	"scantling/testchain"
	"scantling/tx"
	"scantling/world"
)

var out, mint, spend, at = testchain.Out, testchain.Mint, testchain.Spend, testchain.At

func made(t *testing.T) *world.World {
	t.Helper()
	w, e := world.New(testchain.Easy(), 20, []byte("seed"), 2, 1, 100000)
	if e != api.OK {
		t.Fatal(e)
	}
	return w
}

func sameAct(a, b api.Act) bool {
	return a.Do == b.Do && a.K == b.K && a.S == b.S && a.N == b.N && string(a.B) == string(b.B) && a.Block.Header == b.Block.Header && reflect.DeepEqual(append([]int{}, a.Picks...), append([]int{}, b.Picks...)) && string(putBlock(a.Block)) == string(putBlock(b.Block))
}

// TestForm: P28.1, acts and their lines.
func TestForm(t *testing.T) {
	c := testchain.New(testchain.Easy())
	m := mint(1, out(5, nil))
	m.Ins[0].Witness = [][]byte{nil, {1}}
	one := c.Next(m, spend([]api.Out{out(1, []byte("a"))}, at(m, 0)))
	bare := api.Block{Header: one.Header}
	hex := octet.Hex(header.Put(one.Header))
	raw := tx.Put(one.Txs[1])
	many := bare
	var lots []string
	for range 253 {
		many.Txs = append(many.Txs, one.Txs[1])
		lots = append(lots, octet.Hex(octet.PutVar(nil, uint64(len(raw))))+octet.Hex(raw))
	}
	for _, k := range []struct {
		a api.Act
		s string
	}{
		{api.Act{Do: api.ActUp, K: 1, N: 20}, "up 1 20"}, {api.Act{Do: api.ActDown, K: -1, N: math.MinInt}, "down -1 -9223372036854775808"}, {api.Act{Do: api.ActCrash, Picks: []int{3, -1}}, "crash 3 -1"}, {api.Act{Do: api.ActCrash}, "crash"}, {api.Act{Do: api.ActCompact}, "compact"}, {api.Act{Do: api.ActFuse, N: 0}, "fuse 0"},
		{api.Act{Do: api.ActUndo, S: 2}, "undo 2"}, {api.Act{Do: api.ActLink, K: 3, S: -1}, "link 3 -1"}, {api.Act{Do: api.ActCut, K: math.MaxInt}, "cut 9223372036854775807"}, {api.Act{Do: api.ActSay, K: 0}, "say 0 ."}, {api.Act{Do: api.ActSay, K: 4, B: []byte("{\n")}, "say 4 7b0a"},
		{api.Act{Do: api.ActIngest, S: 1, Block: bare}, "ingest 1 " + hex + "00"}, {api.Act{Do: api.ActIngest, Block: api.Block{Header: one.Header, Txs: one.Txs[1:]}}, "ingest 0 " + hex + "01" + octet.Hex([]byte{byte(len(raw))}) + octet.Hex(raw)}, {api.Act{Do: api.ActIngest, Block: one}, ""}, {api.Act{Do: api.ActIngest}, "ingest 0 " + strings.Repeat("00", 81)},
		{api.Act{Do: api.ActIngest, Block: many}, "ingest 0 " + hex + "fdfd00" + strings.Join(lots, "")},
	} {
		s, e := Form(k.a)
		if e != api.OK || k.s != "" && s != k.s {
			t.Error("Form", s, e)
		}
		if a, e := Read(s); e != api.OK || !sameAct(a, k.a) {
			t.Error("Read", s, e)
		}
	}
	a, _ := Read("crash")
	b, _ := Read("say 0 .")
	if !reflect.DeepEqual(a, api.Act{Do: api.ActCrash}) || !reflect.DeepEqual(b, api.Act{Do: api.ActSay}) {
		t.Error("lists of nothing are none")
	}
}

// TestFormBad: P28.1, acts that have no line.
func TestFormBad(t *testing.T) {
	full := api.Act{K: 1, S: 1, N: 1, B: []byte{1}, Block: api.Block{Header: api.Header{Nonce: 1}, Txs: []api.Tx{mint(1, out(1, nil))}}, Picks: []int{0}}
	fields := map[byte]func(*api.Act){
		'K': func(a *api.Act) { a.K = 0 }, 'S': func(a *api.Act) { a.S = 0 }, 'N': func(a *api.Act) { a.N = 0 }, 'B': func(a *api.Act) { a.B = nil }, 'H': func(a *api.Act) { a.Block.Header = api.Header{} }, 'T': func(a *api.Act) { a.Block.Txs = nil }, 'P': func(a *api.Act) { a.Picks = nil },
	}
	for do := range 256 {
		own := map[uint8]string{api.ActIngest: "SHT", api.ActUndo: "S", api.ActLink: "KS", api.ActCut: "K", api.ActUp: "KN", api.ActDown: "KN", api.ActSay: "KB", api.ActCrash: "P", api.ActFuse: "N", api.ActCompact: ""}
		has, is := own[uint8(do)]
		for f := range fields {
			a := full
			a.Do = uint8(do)
			for g, clear := range fields {
				if g != f && !strings.ContainsRune(has, rune(g)) {
					clear(&a)
				}
			}
			s, e := Form(a)
			if want := is && strings.ContainsRune(has, rune(f)); (e == api.OK) != want || e != api.OK && (s != "" || e != api.ErrArg) {
				t.Error("Form", do, string(f), s, e)
			}
		}
	}
	twice := mint(1, out(1, nil))
	twice.Ins = append(twice.Ins, twice.Ins[0])
	for _, x := range []api.Tx{{}, twice, mint(1), mint(1, out(api.MaxMoney+1, nil))} {
		if s, e := Form(api.Act{Do: api.ActIngest, Block: api.Block{Txs: []api.Tx{x}}}); s != "" || e != api.ErrArg {
			t.Error("a transaction that may not be", e)
		}
	}
	if s, e := Form(api.Act{Do: api.ActUp, B: []byte{}, Picks: []int{}, Block: api.Block{Txs: []api.Tx{}}}); s != "up 0 0" || e != api.OK {
		t.Error("empty lists", e)
	}
}

// TestReadBad: P28.1, lines that are no act's.
func TestReadBad(t *testing.T) {
	zeros := strings.Repeat("00", 80)
	for _, s := range []string{
		"", " ", "#", "up", "up 1", "up 1 020", "up 1 2 3", "up  1 2", " up 1 2", "up 1 2 ", "up 1\t2", "Up 1 2", "up +1 2", "up 1 -0", "up -01 2", "up 1 9223372036854775808", "up 1 2\n", "up 1 2\r", "up a 2", "up 1_0 2", "up 0x1 2", "up 1 ", "cut 0 ", "cut", "cut .", "say 0", "say 0 ", "say 0 7", "say 0 7B", "say 0 0g", "say 0 . .", "say 0 00 00", "say 0 ..",
		"crash ", "crash 1  2", "crash 1 ", "crash x", "compact 0", "compact ", "fuse", "fuse .", "undo", "undo 00", "link 1", "ingest 0", "ingest 0 00", "ingest 0 .", "ingest 0 " + zeros, "ingest 0 " + zeros + "0000", "ingest 0 " + zeros + "01", "ingest 0 " + zeros + "0100", "ingest 0 " + zeros + "fd0000", "ingest 0 " + zeros + "ffffffffffffffffff", "ingest 0 " + zeros + "0101", "ingest 0 " + zeros + "010100", "ingest 0 " + zeros + "01fdffff", "ingest " + zeros + "00", "ingest 0 0 " + zeros + "00", "quiet", "ingest 0 " + zeros + "00 0",
	} {
		if a, e := Read(s); e != api.ErrBytes || !reflect.DeepEqual(a, api.Act{}) {
			t.Errorf("Read of %q: %v", s, e)
		}
	}
}

// TestBack: P28.4 by chance: what is read is formed as it stood there.
func TestBack(t *testing.T) {
	r := rand.New(rand.NewSource(28))
	c := testchain.New(testchain.Easy())
	block := c.Next(mint(1, out(5, []byte("abc"))))
	for range 20000 {
		a := api.Act{Do: uint8(1 + r.Intn(10))}
		_, fields := kind(a.Do)
		for _, f := range fields {
			switch f {
			case 'K':
				a.K = r.Intn(20) - 5
			case 'S':
				a.S = r.Intn(20) - 5
			case 'N':
				a.N = int(r.Uint64()) >> r.Intn(64)
			case 'B':
				a.B = []byte("line\n")[:r.Intn(6)]
			case 'X':
				a.Block = block
				a.Block.Header.Nonce = r.Uint32()
			case 'P':
				a.Picks = []int{1, -2, 3}[:r.Intn(4)]
			}
		}
		s, e := Form(a)
		b, re := Read(s)
		if e != api.OK || re != api.OK || !sameAct(a, b) {
			t.Fatal("back", s)
		}
		x := []byte(s)
		x[r.Intn(len(x))] = "0123456789abcdef -.\n#"[r.Intn(21)]
		if b, e := Read(string(x)); e == api.OK {
			if y, fe := Form(b); fe != api.OK || y != string(x) {
				t.Fatal("formed in another way", string(x), y)
			}
		}
	}
}

// TestRun: P28.2 and P28.3.
func TestRun(t *testing.T) {
	p := testchain.Easy()
	first := octet.Turned(header.Id(p.First))
	views := "best 0 " + first + "\nwatched 2\nbalance 0\nquiet\n"
	w := made(t)
	if s, n, e := Run(w, "# a\nundo 5\ncompact\n"); s != "> undo 5\n= 4\n> compact\n= 0\n"+views || n != 0 || e != api.OK {
		t.Error("Run", s, n, e)
	}
	if Views(w) != views || Views(nil) != "" {
		t.Error("Views", Views(w))
	}
	if s, n, e := Run(nil, "x"); s != "" || n != 0 || e != api.ErrNil {
		t.Error("no world")
	}
	for text, want := range map[string]string{"": "", "\n": "", "\n\n#x\n": "", "#": "", "compact": "> compact\n= 0\n", "\ncompact": "> compact\n= 0\n", "compact\n\n": "> compact\n= 0\n"} {
		if s, n, e := Run(made(t), text); s != want+views || n != 0 || e != api.OK {
			t.Errorf("Run of %q: %s", text, s)
		}
	}
	for text, want := range map[string]int{"x": 0, "link 0 0\n\n# a\nx\ny": 3, "link 0 0\n ": 1, "link 0 0\n #\n": 1, "link 0 0\r\n": 0} {
		w := made(t)
		if s, n, e := Run(w, text); s != "" || n != want || e != api.ErrBytes {
			t.Errorf("Run of %q: %d %v", text, n, e)
		}
		if up, _ := w.Way(0); up != 0 {
			t.Error("something was done")
		}
	}
	w = made(t)
	if s, _, _ := Run(w, "link 0 0"); strings.HasSuffix(s, "quiet\n") || !strings.HasSuffix(s, "balance 0\n") {
		t.Error("quiet")
	}
}

// TestViews: P28.2, histories and coins; and P28.4, two texts one behind the other.
func TestViews(t *testing.T) {
	c := testchain.New(testchain.Easy())
	seed := []byte("seed")
	m := mint(1, out(50, gap.Script(seed, 1)), out(9, gap.Script(seed, 0)))
	x := spend([]api.Out{out(30, gap.Script(seed, 1)), out(20, nil)}, at(m, 0))
	for range 9 {
		m.Outs = append(m.Outs, out(0, nil))
	}
	m.Outs = append(m.Outs, m.Outs[1])
	m.Outs[1].Script = nil
	x.Ins[0].From = at(m, 0)
	var lines []string
	for _, b := range []api.Block{c.Grow(m), c.Grow(x)} {
		s, e := Form(api.Act{Do: api.ActIngest, Block: b})
		if e != api.OK {
			t.Fatal(e)
		}
		lines = append(lines, s)
	}
	bring := strings.Repeat("up 0 1000000\ndown 0 1000000\n", 9)
	w := made(t)
	s, _, e := Run(w, "link 0 0\n"+lines[0]+"\n"+lines[1]+"\n"+bring)
	if e != api.OK {
		t.Fatal(e)
	}
	one, two := api.Entry{Height: 1, Tx: tx.Id(m)}, api.Entry{Height: 2, Tx: tx.Id(x)}
	entry := func(e api.Entry) string { return "entry " + strconv.Itoa(e.Height) + " " + octet.Turned(e.Tx) + "\n" }
	want := "best 2 " + octet.Turned(header.Id(c.Blocks[2].Header)) + "\nwatched 4\n" +
		"script 0 " + status.Of([]api.Entry{one}) + "\n" + entry(one) + "coin " + octet.Turned(one.Tx) + " 11 9 1\n" +
		"script 1 " + status.Of([]api.Entry{one, two}) + "\n" + entry(one) + entry(two) + "coin " + octet.Turned(two.Tx) + " 0 30 2\n" +
		"balance 39\nquiet\n"
	if Views(w) != want || !strings.HasSuffix(s, "= 0\n"+want) {
		t.Errorf("Views: %s\nnot %s", Views(w), want)
	}
	v := made(t)
	a, _, _ := Run(v, "link 0 0\n"+lines[0]+"\n")
	a = strings.TrimSuffix(a, Views(v))
	b, _, _ := Run(v, lines[1]+"\n"+bring)
	if a+b != s {
		t.Error("two texts")
	}
}
