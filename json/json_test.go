package json

import (
	"bytes"
	std "encoding/json"
	"math"
	"math/rand"
	"strings"
	"testing"

	"scantling/api"
)

func num(n int64) api.Value   { return api.Value{Kind: api.Number, Num: n} }
func text(s string) api.Value { return api.Value{Kind: api.Text, Text: s} }
func list(l ...api.Value) api.Value {
	return api.Value{Kind: api.List, Kids: l}
}
func object(names []string, l ...api.Value) api.Value {
	return api.Value{Kind: api.Object, Kids: l, Names: names}
}

func nest(n int, v api.Value) api.Value {
	for range n {
		v = list(v)
	}
	return v
}

// TestMay: P6.1, each kind with what it may have, and what it may not.
func TestMay(t *testing.T) {
	for _, v := range []api.Value{
		{}, {Kind: api.Bool}, {Kind: api.Bool, Num: 1}, num(math.MinInt64), text(""), text("\u00e9\x00"), list(), list(num(1), api.Value{}),
		object(nil), object([]string{"", "a"}, num(1), list()), nest(8, num(1)), nest(7, list()), nest(7, object(nil)), {Kids: []api.Value{}, Names: []string{}},
		nest(7, object([]string{"a"}, num(1))), text("\ufffd"), text("\U0010ffff"),
	} {
		if !May(v) {
			t.Error("may", v)
		}
	}
	bad := text("a\xff")
	for _, v := range []api.Value{
		{Kind: 6}, {Kind: 255}, {Num: 1}, {Text: "a"}, {Kids: []api.Value{{}}}, {Names: []string{""}}, {Kind: api.Bool, Num: 2}, {Kind: api.Bool, Num: -1},
		{Kind: api.Bool, Text: "a"}, {Kind: api.Number, Text: "a"}, {Kind: api.Number, Kids: []api.Value{{}}}, {Kind: api.Text, Num: 1}, {Kind: api.Text, Names: []string{"a"}},
		{Kind: api.Text, Kids: []api.Value{{}}}, {Kind: api.List, Num: 1}, {Kind: api.List, Text: "a"}, {Kind: api.List, Names: []string{"a"}, Kids: []api.Value{{}}},
		{Kind: api.Object, Num: 1}, {Kind: api.Object, Text: "a"}, object([]string{"a"}), object(nil, num(1)), object([]string{"a", "a"}, num(1), num(1)), bad, list(bad), object([]string{"a\xc0\x80"}, num(1)),
		nest(9, num(1)), nest(8, list()), nest(8, object(nil)), text("\xed\xa0\x80"), text("\xf4\x90\x80\x80"), text("\xc1\x81"), nest(100000, list()),
	} {
		if May(v) {
			t.Errorf("may not: %.100v", v)
		}
		if b, e := Print(v); b != nil || e != api.ErrArg {
			t.Error("Print of what may not be")
		}
	}
}

// TestSame: P6.1.
func TestSame(t *testing.T) {
	l := []api.Value{
		{}, {Kind: api.Bool}, {Kind: api.Bool, Num: 1}, num(1), num(2), text(""), text("1"), list(), list(num(1)), list(num(1), num(1)), list(list()), list(num(2)), object(nil),
		object([]string{"a"}, num(1)), object([]string{"b"}, num(1)), object([]string{"a"}, num(2)), object([]string{"a", "b"}, num(1), num(2)), object([]string{"b", "a"}, num(2), num(1)), {Kind: 9}, nest(100000, num(1)), nest(100001, num(1)),
	}
	for i, a := range l {
		for j, b := range l {
			if Same(a, b) != (i == j) {
				t.Error("Same", i, j)
			}
		}
	}
	if !Same(api.Value{Kids: []api.Value{}, Names: []string{}}, api.Value{}) {
		t.Error("nil and empty")
	}
}

// TestPrint: P6.2.
func TestPrint(t *testing.T) {
	for _, c := range []struct {
		v api.Value
		s string
	}{
		{list(num(1), text("a\n"), api.Value{}), `[1,"a\n",null]`}, {api.Value{Kind: api.Bool}, "false"}, {api.Value{Kind: api.Bool, Num: 1}, "true"}, {num(0), "0"},
		{num(math.MinInt64), "-9223372036854775808"}, {num(math.MaxInt64), "9223372036854775807"}, {list(), "[]"}, {object(nil), "{}"}, {list(list(), object(nil)), "[[],{}]"},
		{object([]string{"b\"", "a"}, num(-1), text("x")), `{"b\"":-1,"a":"x"}`},
		{text("\x00\x01\x07\b\t\n\v\f\r\x0e\x1f \"\\/\x7fé\u2028😀"), "\"\\u0000\\u0001\\u0007\\b\\t\\n\\u000b\\f\\r\\u000e\\u001f \\\"\\\\/\x7fé\u2028😀\""},
	} {
		if b, e := Print(c.v); string(b) != c.s || e != api.OK {
			t.Errorf("Print: %s, not %s", b, c.s)
		}
		if v, e := Parse([]byte(c.s)); !Same(v, c.v) || e != api.OK {
			t.Errorf("Parse of %s: %v %v", c.s, v, e)
		}
	}
}

// TestParse: P6.3, ways to write.
func TestParse(t *testing.T) {
	for _, c := range []struct {
		s string
		v api.Value
	}{
		{` { "a" : -0 } `, object([]string{"a"}, num(0))}, {"\t\n\r null\t\n\r ", api.Value{}}, {" [ 1 , 2 ] ", list(num(1), num(2))}, {"[ ]", list()}, {"{ }", object(nil)},
		{`"\u00e9\ud83d\ude00"`, text("é😀")}, {`"\"\\\/\b\f\n\r\t"`, text("\"\\/\b\f\n\r\t")}, {`"\u00E9\uD83D\uDE00\u0000\uFFFF"`, text("é😀\x00\uffff")}, {`"\uABCD\uabcd\ud7ff\ue000"`, text("\uabcd\uabcd\ud7ff\ue000")}, {`"\ud800\udc00\udbff\udfff"`, text("\U00010000\U0010ffff")},
		{"-1", num(-1)}, {"10", num(10)}, {"-9223372036854775808", num(math.MinInt64)}, {"9223372036854775807", num(math.MaxInt64)}, {"\"\x7f\ufffd\"", text("\x7f\ufffd")}, {`{"":1," ":2}`, object([]string{"", " "}, num(1), num(2))},
		{`{"\u0061":1,"A":2}`, object([]string{"a", "A"}, num(1), num(2))}, {"[[],[[],{}]]", list(list(), list(list(), object(nil)))}, {strings.Repeat("[", 8) + strings.Repeat("]", 8), nest(7, list())},
	} {
		if v, e := Parse([]byte(c.s)); !Same(v, c.v) || e != api.OK {
			t.Errorf("Parse of %s: %v %v", c.s, v, e)
		}
	}
}

// TestBad: P6.3, what says nothing, and which error comes first.
func TestBad(t *testing.T) {
	for _, s := range []string{
		"", " ", "01", "1.0", "1e3", "-", "+1", "--1", "-01", "00", "9223372036854775808", "-9223372036854775809", "99999999999999999999999", "[1,]", "[,1]", "[1 2]", "[", "]", "[1", "{", "}", `{"a"}`, `{"a":}`, `{"a":1,}`, `{,}`, `{a:1}`, `{1:1}`, `{"a":1,"a":2}`,
		`{"a":1,"\u0061":2}`, `{"a" 1}`, `{"a":1 "b":2}`, `"`, `"a`, `"\`, `"\u`, `"\u12`, `"\u123"`, `"\u123g"`, `"\x"`, `"\U0041"`, `"\ud800"`, `"\udc00"`, `"\ud800\u0041"`, `"\ud800\n"`, `"\ud800\ud800"`, `"\udc00\ud800"`, `"\ud800x`, `"\udc00\udc00"`, `"\udfff\udfff"`, `"\udfff"`, `"\ud800\ue000"`, `"\ud800\udbff"`, `"\u@bcd"`, `"\u000G"`, "\"\n\"", "\"\x00\"", "\"\x1f\"", "\"\xff\"", "\"\xed\xa0\x80\"", "\"\xc0\x80\"", "\"\xf4\x90\x80\x80\"", "\"\xe9\"",
		"nul", "nulll", "Null", "tru", "falsy", "true false", "1 1", "null\x00", "\x00", "\v1", "\u00a01", "\ufeff1", "'a'", "//\n1", "[1]]", "NaN", "0x1", "1_0", "a",
	} {
		if v, e := Parse([]byte(s)); !Same(v, api.Value{}) || e != api.ErrBytes {
			t.Errorf("Parse of %q: %v %v", s, v, e)
		}
	}
	deep := strings.Repeat("[", 8)
	for s, want := range map[string]api.Errno{
		deep + "[": api.ErrMany, deep + "{": api.ErrMany, deep: api.ErrBytes, deep + "1[": api.ErrBytes, deep + "01,[": api.ErrBytes, deep + "1,[": api.ErrMany, deep + `"\x",[`: api.ErrBytes, deep + `"[","{"` + "x": api.ErrBytes,
		strings.Repeat(`{"a":`, 9): api.ErrMany, strings.Repeat(`{"a":`, 8): api.ErrBytes, strings.Repeat("[", 7) + `{"a":1,"a":[`: api.ErrBytes, strings.Repeat("[", 7) + `{"a":1,"b":[`: api.ErrMany, "[]" + deep + "[": api.ErrBytes, strings.Repeat("[", 60000): api.ErrMany, "[x" + deep: api.ErrBytes, " " + deep + " [": api.ErrMany,
		deep + strings.Repeat("]", 7) + ",[],[[[[[[[[": api.ErrMany,
		strings.Repeat(" ", api.MaxLine) + "1":         api.ErrMany, strings.Repeat(" ", api.MaxLine): api.ErrBytes, strings.Repeat(" ", api.MaxLine-1) + "1": api.OK,
	} {
		if _, e := Parse([]byte(s)); e != want {
			t.Errorf("Parse of %.40q: %v, not %v", s, e, want)
		}
	}
}

// TestField: P6.4.
func TestField(t *testing.T) {
	v := object([]string{"a", "b"}, num(1), list(num(2)))
	if k, is := Field(v, "b"); !is || !Same(k, list(num(2))) {
		t.Error("a kid")
	} else if k.Kids[0] = num(3); v.Kids[1].Kids[0].Num != 2 {
		t.Error("shared")
	}
	if k, is := Field(v, "a"); !is || k.Num != 1 {
		t.Error("the first kid")
	}
	deep := object([]string{"x"}, list(list(num(1), object([]string{"n"}, num(2)))))
	k, _ := Field(deep, "x")
	k.Kids[0].Kids[0].Num, k.Kids[0].Kids[1].Names[0] = 7, "m"
	if in := deep.Kids[0].Kids[0]; in.Kids[0].Num != 1 || in.Kids[1].Names[0] != "n" {
		t.Error("shared, deeper")
	}
	for _, x := range []api.Value{v, {}, list(num(1)), object([]string{"c"}), {Kind: api.List, Names: []string{"c"}, Kids: []api.Value{{}}}} {
		if k, is := Field(x, "c"); is || !Same(k, api.Value{}) {
			t.Error("none", x)
		}
	}
}

// TestBack: P6.5, with values and bytes by chance.
func TestBack(t *testing.T) {
	r := rand.New(rand.NewSource(6))
	var any func(depth int) api.Value
	any = func(depth int) api.Value {
		switch k := r.Intn(6); {
		case k == 0:
			return api.Value{}
		case k == 1:
			return api.Value{Kind: api.Bool, Num: r.Int63n(2)}
		case k == 2:
			return num(int64(r.Uint64()) >> r.Intn(64))
		case k == 3 || depth == 0:
			var s []rune
			for range r.Intn(9) {
				s = append(s, []rune{0, 8, 9, 31, '"', '\\', '/', 'a', 0xe9, 0xd7ff, 0xe000, 0xffff, 0x10000, 0x10ffff}[r.Intn(14)])
			}
			return text(string(s))
		default:
			v := list()
			for i := range r.Intn(4) {
				v.Kids = append(v.Kids, any(depth-1))
				if k == 5 {
					v.Names = append(v.Names, string(rune('a'+i)))
				}
			}
			if k == 5 {
				v.Kind = api.Object
			}
			return v
		}
	}
	for range 3000 {
		v := any(8)
		b, e := Print(v)
		if e != api.OK || !std.Valid(b) {
			t.Fatal("Print", v, e)
		}
		if len(b) > api.MaxLine {
			continue
		}
		if w, e := Parse(b); e != api.OK || !Same(v, w) || !May(w) {
			t.Fatalf("back: %s", b)
		}
		for range 5 {
			c := bytes.Clone(b)
			c[r.Intn(len(c))] = " \"\\{}[],:019-ux\xff"[r.Intn(16)]
			w, e := Parse(c)
			if e == api.OK {
				if d, pe := Print(w); pe != api.OK || len(d) > len(c) || !std.Valid(c) {
					t.Fatalf("longer, or wrong: %s", c)
				}
			} else if !Same(w, api.Value{}) {
				t.Fatal("an error, and more")
			}
		}
	}
}
