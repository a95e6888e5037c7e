package rpc

import (
	"reflect"
	"strings"
	"testing"

	"scantling/api"
	"scantling/json"
)

func list(l ...api.Value) api.Value { return api.Value{Kind: api.List, Kids: l} }

func nest(n int, v api.Value) api.Value {
	for range n {
		v = list(v)
	}
	return v
}

func same(a, b api.Message) bool {
	return a.Kind == b.Kind && a.Id == b.Id && a.Method == b.Method && json.Same(a.Params, b.Params) && json.Same(a.Result, b.Result) && a.Code == b.Code && a.Text == b.Text
}

// TestWrite: P7.1 and P7.3.
func TestWrite(t *testing.T) {
	for _, c := range []struct {
		m api.Message
		s string
	}{
		{api.Message{Kind: api.MsgAsk, Id: 7, Method: "server.ping", Params: list()}, `{"jsonrpc":"2.0","id":7,"method":"server.ping","params":[]}`},
		{api.Message{Kind: api.MsgAsk, Method: "a\n", Params: list(number(1), list())}, `{"jsonrpc":"2.0","id":0,"method":"a\n","params":[1,[]]}`},
		{api.Message{Kind: api.MsgNote, Method: "x", Params: list(text("y"))}, `{"jsonrpc":"2.0","method":"x","params":["y"]}`},
		{api.Message{Kind: api.MsgAnswer, Id: 1}, `{"jsonrpc":"2.0","id":1,"result":null}`},
		{api.Message{Kind: api.MsgAnswer, Id: 1<<63 - 1, Result: nest(6, list())}, `{"jsonrpc":"2.0","id":9223372036854775807,"result":[[[[[[[]]]]]]]}`},
		{api.Message{Kind: api.MsgRefuse, Id: 3, Code: -1, Text: "no"}, `{"jsonrpc":"2.0","id":3,"error":{"code":-1,"message":"no"}}`},
		{api.Message{Kind: api.MsgRefuse}, `{"jsonrpc":"2.0","id":0,"error":{"code":0,"message":""}}`},
	} {
		if b, e := Write(c.m); string(b) != c.s || e != api.OK {
			t.Errorf("Write: %s %v", b, e)
		}
		if m, e := Read([]byte(c.s)); !same(m, c.m) || e != api.OK {
			t.Errorf("Read: %v %v", m, e)
		}
	}
}

// TestWriteBad: what may not be written, and what is too much.
func TestWriteBad(t *testing.T) {
	bad := "\xff"
	ask := api.Message{Kind: api.MsgAsk, Method: "x", Params: list()}
	note := api.Message{Kind: api.MsgNote, Method: "x", Params: list()}
	answer := api.Message{Kind: api.MsgAnswer}
	refuse := api.Message{Kind: api.MsgRefuse}
	turned := func(m api.Message, turn func(*api.Message)) api.Message { turn(&m); return m }
	l := []api.Message{{}, {Kind: 5}}
	for _, m := range []api.Message{ask, note, answer, refuse} {
		l = append(l, turned(m, func(m *api.Message) { m.Id = -1 }))
		asked := m.Kind == api.MsgAsk || m.Kind == api.MsgNote
		if asked {
			l = append(l, turned(m, func(m *api.Message) { m.Method = "" }), turned(m, func(m *api.Message) { m.Method = bad }), turned(m, func(m *api.Message) { m.Params = api.Value{} }),
				turned(m, func(m *api.Message) { m.Params = number(1) }), turned(m, func(m *api.Message) { m.Params = list(text(bad)) }), turned(m, func(m *api.Message) { m.Params = nest(8, list()) }))
		} else {
			l = append(l, turned(m, func(m *api.Message) { m.Method = "x" }), turned(m, func(m *api.Message) { m.Params = list() }))
		}
		if m.Kind == api.MsgNote {
			l = append(l, turned(m, func(m *api.Message) { m.Id = 1 }))
		}
		if m.Kind != api.MsgAnswer {
			l = append(l, turned(m, func(m *api.Message) { m.Result = number(0) }))
		} else {
			l = append(l, turned(m, func(m *api.Message) { m.Result = text(bad) }), turned(m, func(m *api.Message) { m.Result = nest(9, number(1)) }), turned(m, func(m *api.Message) { m.Result = api.Value{Num: 1} }))
		}
		if m.Kind != api.MsgRefuse {
			l = append(l, turned(m, func(m *api.Message) { m.Code = 1 }), turned(m, func(m *api.Message) { m.Text = "x" }))
		} else {
			l = append(l, turned(m, func(m *api.Message) { m.Text = bad }))
		}
	}
	for i, m := range l {
		if b, e := Write(m); b != nil || e != api.ErrArg {
			t.Error("Write of what may not be", i, m, string(b))
		}
	}
	empty, _ := Write(api.Message{Kind: api.MsgAnswer, Result: text("")})
	room := api.MaxLine - len(empty)
	for _, c := range []struct {
		m api.Message
		e api.Errno
	}{
		{api.Message{Kind: api.MsgAnswer, Result: text(strings.Repeat("a", room))}, api.OK}, {api.Message{Kind: api.MsgAnswer, Result: text(strings.Repeat("a", room+1))}, api.ErrMany},
		{api.Message{Kind: api.MsgAnswer, Result: nest(7, list())}, api.ErrMany}, {api.Message{Kind: api.MsgAsk, Method: "x", Params: nest(7, list())}, api.ErrMany}, {api.Message{Kind: api.MsgNote, Method: "x", Params: nest(6, list())}, api.OK},
		{api.Message{Kind: api.MsgAsk, Id: -1, Method: "x", Params: nest(7, list())}, api.ErrArg},
	} {
		if b, e := Write(c.m); e != c.e || (b != nil) != (e == api.OK) || len(b) > api.MaxLine {
			t.Error("Write of much", e, c.e)
		}
	}
}

// TestRead: P7.2.
func TestRead(t *testing.T) {
	for s, want := range map[string]api.Message{
		`{"id":7,"result":null}`:                                         {Kind: api.MsgAnswer, Id: 7},
		`{"method":"x","id":3}`:                                          {Kind: api.MsgAsk, Id: 3, Method: "x", Params: list()},
		`{"method":"x"}`:                                                 {Kind: api.MsgNote, Method: "x", Params: list()},
		`{"params":[[1]],"jsonrpc":"2.0","method":"x"}`:                  {Kind: api.MsgNote, Method: "x", Params: list(list(number(1)))},
		`{"id":1,"result":1,"error":null}`:                               {Kind: api.MsgAnswer, Id: 1, Result: number(1)},
		`{"error":null,"result":null,"id":1}`:                            {Kind: api.MsgAnswer, Id: 1},
		`{"id":1,"result":null,"error":{"message":"no","code":-1}}`:      {Kind: api.MsgRefuse, Id: 1, Code: -1, Text: "no"},
		`{"error":{"code":2,"message":""},"id":1}`:                       {Kind: api.MsgRefuse, Id: 1, Code: 2},
		` { "id" : -0 , "result" : { "a" : [ ] } , "jsonrpc" : "2.0" } `: {Kind: api.MsgAnswer, Result: api.Value{Kind: api.Object, Names: []string{"a"}, Kids: []api.Value{list()}}},
	} {
		if m, e := Read([]byte(s)); !same(m, want) || e != api.OK {
			t.Errorf("Read of %s: %v %v", s, m, e)
		} else if _, e := Write(m); e != api.OK {
			t.Error("what is read may be", s)
		}
	}
	for _, s := range []string{
		`{"id":-1,"result":1}`, `{"id":1}`, `[]`, `{"method":"","id":1}`, `null`, `{}`, `{"result":1}`, `{"id":1,"error":null}`, `{"id":"1","result":1}`, `{"id":null,"method":"x"}`, `{"id":1,"method":1}`, `{"id":1,"method":null,"result":1}`,
		`{"id":1,"method":"x","params":{}}`, `{"id":1,"method":"x","params":null}`, `{"id":1,"method":"x","result":null}`, `{"id":1,"method":"x","error":null}`, `{"method":"x","error":{"code":1,"message":""}}`, `{"id":1,"result":1,"params":[]}`,
		`{"id":1,"error":{"code":1,"message":""},"params":[]}`, `{"id":1,"result":1,"error":{"code":1,"message":""}}`, `{"id":1,"error":{}}`, `{"id":1,"error":{"code":1}}`, `{"id":1,"error":{"message":""}}`, `{"id":1,"error":{"code":"1","message":""}}`,
		`{"id":1,"error":{"code":1,"message":null}}`, `{"id":1,"error":{"code":1,"message":"","data":1}}`, `{"id":1,"error":"no"}`, `{"id":1,"error":1}`, `{"id":1,"error":[]}`, `{"id":1,"result":1,"jsonrpc":"1.0"}`, `{"id":1,"result":1,"jsonrpc":2}`,
		`{"id":1,"result":1,"x":1}`, `{"id":1,"result":1,"id":1}`, `{"params":[]}`, `{"id":1,"params":[]}`, ``, `x`, `{"error":{"code":1,"message":""}}`, `{"id":false,"result":0}`,
	} {
		if m, e := Read([]byte(s)); !reflect.DeepEqual(m, api.Message{}) || e != api.ErrBytes {
			t.Errorf("Read of %s: %v %v", s, m, e)
		}
	}
	for _, s := range []string{strings.Repeat(" ", api.MaxLine+1), `{"id":1,"result":[[[[[[[[1]]]]]]]]}`} {
		if m, e := Read([]byte(s)); !reflect.DeepEqual(m, api.Message{}) || e != api.ErrMany {
			t.Error("Read of much", e)
		}
	}
}

// TestKept: R3.
func TestKept(t *testing.T) {
	kids := append(make([]api.Value, 0, 8), number(1))
	names := make([]string, 0, 8)
	m := api.Message{Kind: api.MsgAnswer, Result: api.Value{Kind: api.List, Kids: kids, Names: names}}
	Write(m)
	if kids[:2][1].Kind != api.Null || names[:1][0] != "" {
		t.Error("the room behind was written")
	}
}
