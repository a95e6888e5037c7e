package json

import (
	"strings"
	"unicode/utf8"

	"scantling/api"
)

// The runes that two escapes stand for: the first one has the higher ten bits, the second one the lower ten.
const (
	highHalf = 0xd800
	lowHalf  = 0xdc00
	endHalf  = 0xe000
	pairFrom = 0x10000
)

// failure is what a reader that can't go on panics with.
type failure struct{ e api.Errno }

// reader of a value's text.
type reader struct {
	b     []byte
	at    int
	depth int // lists and objects that are open
}

// Parse: the value that bytes are written as. (P6.3)
func Parse(b []byte) (api.Value, api.Errno) {
	if len(b) > api.MaxLine {
		return api.Value{}, api.ErrMany
	}
	return readWhole(b)
}

// readWhole reads the one value that bytes are, and catches the panic of a reader that can't go on.
func readWhole(b []byte) (v api.Value, e api.Errno) {
	defer func() {
		if fault := recover(); fault != nil {
			v, e = api.Value{}, api.ErrBytes
			if f, is := fault.(failure); is {
				e = f.e
			}
		}
	}()
	r := reader{b: b}
	v = r.value()
	if r.next() != 0 || r.at < len(b) {
		fail(api.ErrBytes)
	}
	return v, api.OK
}

func fail(e api.Errno) { panic(failure{e}) }

// next is the byte behind blanks, which is not taken; 0 at the end.
func (r *reader) next() byte {
	for r.at < len(r.b) && strings.IndexByte(" \t\n\r", r.b[r.at]) >= 0 {
		r.at++
	}
	return r.here()
}

// here is the next byte, which is not taken; 0 at the end.
func (r *reader) here() byte {
	if r.at < len(r.b) {
		return r.b[r.at]
	}
	return 0
}

// take takes the next byte; there must be one.
func (r *reader) take() byte {
	if r.at >= len(r.b) {
		fail(api.ErrBytes)
	}
	r.at++
	return r.b[r.at-1]
}

// want takes just these bytes.
func (r *reader) want(s string) {
	for i := range len(s) {
		if r.take() != s[i] {
			fail(api.ErrBytes)
		}
	}
}

func (r *reader) value() api.Value {
	switch c := r.next(); c {
	case 'n':
		r.want("null")
		return api.Value{}
	case 'f':
		r.want("false")
		return api.Value{Kind: api.Bool}
	case 't':
		r.want("true")
		return api.Value{Kind: api.Bool, Num: 1}
	case '"':
		return api.Value{Kind: api.Text, Text: r.text()}
	case '[':
		return r.within(']', r.list)
	case '{':
		return r.within('}', r.object)
	default:
		return api.Value{Kind: api.Number, Num: r.number()}
	}
}

// within reads what stands between brackets by read, unless there is nothing.
func (r *reader) within(end byte, read func() api.Value) api.Value {
	if r.depth == api.MaxNest {
		fail(api.ErrMany)
	}
	r.depth++
	r.take()
	var v api.Value
	if r.next() == end {
		v.Kind = api.List
		if end == '}' {
			v.Kind = api.Object
		}
	} else {
		v = read()
	}
	r.next()
	if r.take() != end {
		fail(api.ErrBytes)
	}
	r.depth--
	return v
}

func (r *reader) list() api.Value {
	v := api.Value{Kind: api.List, Kids: []api.Value{r.value()}}
	for r.next() == ',' {
		r.take()
		v.Kids = append(v.Kids, r.value())
	}
	return v
}

func (r *reader) object() api.Value {
	v := api.Value{Kind: api.Object}
	seen := map[string]bool{}
	for {
		if r.next() != '"' {
			fail(api.ErrBytes)
		}
		name := r.text()
		if seen[name] {
			fail(api.ErrBytes)
		}
		seen[name] = true
		r.next()
		r.want(":")
		v.Names = append(v.Names, name)
		v.Kids = append(v.Kids, r.value())
		if r.next() != ',' {
			return v
		}
		r.take()
	}
}

// number reads digits without noughts ahead. It counts below 0, where there is room for one more.
func (r *reader) number() int64 {
	const least = -1 << 63
	below := r.here() == '-'
	if below {
		r.take()
	}
	if c := r.here(); c < '0' || c > '9' {
		fail(api.ErrBytes)
	}
	lone := r.here() == '0'
	n := int64(0)
	for r.here() >= '0' && r.here() <= '9' {
		digit := int64(r.take() - '0')
		if n < (least+digit)/10 {
			fail(api.ErrBytes)
		}
		n = n*10 - digit
		if lone {
			break
		}
	}
	switch {
	case below:
		return n
	case n == least:
		fail(api.ErrBytes)
	}
	return -n
}

// text reads what stands in quotes.
func (r *reader) text() string {
	r.want(`"`)
	var out []byte
	for {
		c, size := utf8.DecodeRune(r.b[r.at:])
		switch {
		case c == '"':
			r.at++
			return string(out)
		case c == '\\':
			r.at++
			out = utf8.AppendRune(out, r.escape())
		case c < ' ' || c == utf8.RuneError && size < 2:
			fail(api.ErrBytes)
		default:
			r.at += size
			out = utf8.AppendRune(out, c)
		}
	}
}

// escape reads what stands behind a backslash.
func (r *reader) escape() rune {
	switch c := r.take(); c {
	case '"', '\\', '/':
		return rune(c)
	case 'b':
		return '\b'
	case 'f':
		return '\f'
	case 'n':
		return '\n'
	case 'r':
		return '\r'
	case 't':
		return '\t'
	case 'u':
		return r.escaped()
	}
	fail(api.ErrBytes)
	return 0
}

// escaped reads the four digits behind a backslash and u, and the second four of a pair.
func (r *reader) escaped() rune {
	high := r.four()
	if high < highHalf || high >= endHalf {
		return high
	}
	if high >= lowHalf {
		fail(api.ErrBytes)
	}
	r.want(`\u`)
	low := r.four()
	if low < lowHalf || low >= endHalf {
		fail(api.ErrBytes)
	}
	return pairFrom + (high-highHalf)<<10 + (low - lowHalf)
}

func (r *reader) four() rune {
	n := rune(0)
	for range 4 {
		c := r.take()
		if c >= 'A' && c <= 'F' {
			c += 'a' - 'A'
		}
		digit := strings.IndexByte(letters, c)
		if digit < 0 {
			fail(api.ErrBytes)
		}
		n = n<<4 | rune(digit)
	}
	return n
}
