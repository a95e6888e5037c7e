package tx

import (
	"bytes"
	"slices"

	"scantling/api"
)

// short is what a reader panics with whose bytes are at an end.
type short struct{}

// reader of a transaction's bytes.
type reader struct{ rest []byte }

// Get is the transaction whose bytes these are.
func Get(b []byte) (api.Tx, api.Errno) {
	if len(b) > api.MaxTx {
		return api.Tx{}, api.ErrMany
	}
	return readWhole(b)
}

// readWhole reads the one transaction that bytes are, and catches the panic of a reader whose bytes are at an end.
func readWhole(b []byte) (t api.Tx, e api.Errno) {
	defer func() {
		if recover() != nil {
			t, e = api.Tx{}, api.ErrBytes
		}
	}()
	r := reader{b}
	t = r.tx()
	// What is written in another way than Put has it says nothing.
	if len(r.rest) > 0 || !May(t) || !bytes.Equal(Put(t), b) {
		return api.Tx{}, api.ErrBytes
	}
	return t, api.OK
}

// some takes so many bytes.
func (r *reader) some(n uint64) []byte {
	if n > uint64(len(r.rest)) {
		panic(short{})
	}
	b := r.rest[:n]
	r.rest = r.rest[n:]
	return b
}

func (r *reader) number(size uint64) uint64 {
	n := uint64(0)
	for _, x := range slices.Backward(r.some(size)) {
		n = n<<8 | uint64(x)
	}
	return n
}

func (r *reader) count() uint64 {
	switch first := r.number(1); first {
	case 0xfd:
		return r.number(2)
	case 0xfe:
		return r.number(4)
	case 0xff:
		return r.number(8)
	default:
		return first
	}
}

func (r *reader) item() []byte {
	return append([]byte(nil), r.some(r.count())...)
}

func (r *reader) tx() api.Tx {
	t := api.Tx{Version: uint32(r.number(4))}
	witnesses := len(r.rest) > 1 && r.rest[0] == 0
	if witnesses {
		// What the second byte must be shows in Put.
		r.some(2)
	}
	for range r.count() {
		t.Ins = append(t.Ins, r.in())
	}
	for range r.count() {
		t.Outs = append(t.Outs, api.Out{Value: r.number(8), Script: r.item()})
	}
	if witnesses {
		for i := range t.Ins {
			t.Ins[i].Witness = r.witness()
		}
	}
	t.Lock = uint32(r.number(4))
	return t
}

func (r *reader) in() api.In {
	var in api.In
	copy(in.From.Tx[:], r.some(32))
	in.From.N = uint32(r.number(4))
	in.Script = r.item()
	in.Seq = uint32(r.number(4))
	return in
}

func (r *reader) witness() [][]byte {
	var l [][]byte
	for range r.count() {
		l = append(l, r.item())
	}
	return l
}
