package link

import (
	"math/rand"
	"reflect"
	"strconv"
	"strings"
	"testing"

	"scantling/api"
)

func num(n int64) api.Value { return api.Value{Kind: api.Number, Num: n} }

func asked(t *testing.T, l *Link, method string, tag int, want string, params ...api.Value) {
	t.Helper()
	if b, e := l.Ask(method, params, tag); string(b) != want+"\n" || e != api.OK {
		t.Errorf("Ask: %s %v", b, e)
	}
}

func fed(t *testing.T, l *Link, text string, e api.Errno, want ...api.Got) {
	t.Helper()
	got, fe := l.Feed([]byte(text))
	if fe != e || len(got) != len(want) {
		t.Errorf("Feed of %.100s: %v %v", text, got, fe)
		return
	}
	for i := range got {
		if !reflect.DeepEqual(got[i], want[i]) {
			t.Errorf("Feed of %.100s: %v, not %v", text, got[i], want[i])
		}
	}
}

// TestTalk: P23.1 to P23.3.
func TestTalk(t *testing.T) {
	l := New()
	if l.Waiting() != 0 || l.Closed() {
		t.Error("New")
	}
	asked(t, l, "server.ping", 7, `{"jsonrpc":"2.0","id":0,"method":"server.ping","params":[]}`)
	asked(t, l, "a", -3, `{"jsonrpc":"2.0","id":1,"method":"a","params":[1,null]}`, num(1), api.Value{})
	asked(t, l, "b", 7, `{"jsonrpc":"2.0","id":2,"method":"b","params":[]}`)
	if l.Waiting() != 3 {
		t.Error("Waiting")
	}
	fed(t, l, `{"id":2,"result":5}`+"\n"+`{"method":"n","params":[1]}`+"\n"+`{"id":0,"re`, api.OK, api.Got{Kind: api.MsgAnswer, Tag: 7, Result: num(5)}, api.Got{Kind: api.MsgNote, Method: "n", Params: []api.Value{num(1)}})
	fed(t, l, `sult":null}`+"\n"+`{"id":1,"error":{"code":-5,"message":"no"}}`+"\n", api.OK, api.Got{Kind: api.MsgAnswer, Tag: 7}, api.Got{Kind: api.MsgRefuse, Tag: -3, Code: -5})
	fed(t, l, "", api.OK)
	if l.Waiting() != 0 || l.Closed() {
		t.Error("nothing waits")
	}
	asked(t, l, "c", 1, `{"jsonrpc":"2.0","id":3,"method":"c","params":[]}`)
	fed(t, l, `{"id":3,"result":1}`+"\n"+`{"id":3,"result":1}`+"\n"+`{"method":"n"}`+"\n", api.ErrFault, api.Got{Kind: api.MsgAnswer, Tag: 1, Result: num(1)})
	fed(t, l, "", api.ErrState)
	if b, e := l.Ask("", nil, 1); b != nil || e != api.ErrState || !l.Closed() {
		t.Error("closed")
	}
}

// TestFaults: what closes a link.
func TestFaults(t *testing.T) {
	for _, bad := range []string{"", "x", `{"id":9,"result":1}`, `{"id":9,"error":{"code":1,"message":""}}`, `{"id":0,"method":"a"}`, "[[[[[[[[[", `{"id":-1,"result":1}`} {
		l := New()
		l.Ask("a", nil, 4)
		l.Ask("b", nil, 5)
		fed(t, l, `{"id":1,"result":null}`+"\n"+bad+"\n"+`{"id":0,"result":null}`+"\n", api.ErrFault, api.Got{Kind: api.MsgAnswer, Tag: 5})
		if !l.Closed() || l.Waiting() != 0 {
			t.Error("not closed", bad)
		}
	}
	l := New()
	l.Ask("a", nil, 4)
	fed(t, l, strings.Repeat(" ", api.MaxLine), api.OK)
	fed(t, l, "  ", api.ErrFault)
	if l.Waiting() != 0 {
		t.Error("waits")
	}
	l = New()
	l.Ask("a", nil, 4)
	fed(t, l, `{"id":0,"result":2}`+"\n"+strings.Repeat(" ", api.MaxLine+1)+"\n", api.ErrFault, api.Got{Kind: api.MsgAnswer, Tag: 4, Result: num(2)})
	l = New()
	l.Ask("a", nil, 4)
	l.Shut()
	fed(t, l, `{"id":0,"result":2}`+"\n", api.ErrState)
	if !l.Closed() || l.Waiting() != 0 {
		t.Error("Shut")
	}
	l.Shut()
}

// TestAsk: P23.2, errors.
func TestAsk(t *testing.T) {
	l := New()
	for i, c := range []struct {
		method string
		params []api.Value
	}{{"", nil}, {"\xff", nil}, {"a", []api.Value{{Kind: 9}}}, {"a", []api.Value{{Kind: api.Text, Text: strings.Repeat("a", api.MaxLine)}}}, {"a", []api.Value{{Kind: api.Text, Text: "\xff"}}}} {
		if b, e := l.Ask(c.method, c.params, 1); b != nil || e != api.ErrArg || l.Waiting() != 0 {
			t.Error("Ask", i, e)
		}
	}
	deep := num(1)
	for range 7 {
		deep = api.Value{Kind: api.List, Kids: []api.Value{deep}}
	}
	if _, e := l.Ask("a", []api.Value{deep}, 1); e != api.ErrArg {
		t.Error("too deep", e)
	}
	for n := range api.MaxAsks {
		asked(t, l, "a", n, `{"jsonrpc":"2.0","id":`+strconv.Itoa(n)+`,"method":"a","params":[]}`)
	}
	if b, e := l.Ask("", nil, 1); b != nil || e != api.ErrFull || l.Waiting() != api.MaxAsks {
		t.Error("one more", e)
	}
	fed(t, l, `{"id":30,"result":null}`+"\n", api.OK, api.Got{Kind: api.MsgAnswer, Tag: 30})
	asked(t, l, "a", 99, `{"jsonrpc":"2.0","id":32,"method":"a","params":[]}`)
	params := append(make([]api.Value, 0, 4), num(1))
	fed(t, l, `{"id":31,"result":null}`+"\n", api.OK, api.Got{Kind: api.MsgAnswer, Tag: 31})
	l.Ask("a", params, 1)
	if !reflect.DeepEqual(params[:2], []api.Value{num(1), {}}) {
		t.Error("changed")
	}
}

// TestNone: no link.
func TestNone(t *testing.T) {
	var l *Link
	b, e := l.Ask("a", nil, 0)
	got, fe := l.Feed(nil)
	l.Shut()
	if b != nil || e != api.ErrNil || got != nil || fe != api.ErrNil || l.Waiting() != 0 || !l.Closed() {
		t.Error("no link")
	}
}

// TestParts: P23.4.
func TestParts(t *testing.T) {
	r := rand.New(rand.NewSource(23))
	all := `{"id":1,"result":[1,2]}` + "\n" + `{"method":"n"}` + "\n" + `{"id":0,"result":"x"}` + "\n" + `{"id":0,"result":"x"}` + "\n" + `{"id":2,"result":1}` + "\n"
	for range 100 {
		l := New()
		for n := range 3 {
			l.Ask("a", nil, n)
		}
		var got []api.Got
		e := api.OK
		for rest := all; len(rest) > 0 && e == api.OK; {
			n := 1 + r.Intn(len(rest))
			var g []api.Got
			g, e = l.Feed([]byte(rest[:n]))
			got, rest = append(got, g...), rest[n:]
		}
		if e != api.ErrFault || len(got) != 3 || got[0].Tag != 1 || got[1].Method != "n" || got[2].Result.Text != "x" {
			t.Error("parts", got, e)
		}
	}
}
