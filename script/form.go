package script

import (
	"slices"
	"strconv"
	"strings"

	"scantling/api"
	"scantling/header"
	"scantling/octet"
	"scantling/tx"
)

const (
	none       = "." // the letters of no bytes
	headerSize = 80
)

// kind is an act's word, and what stands behind it: its fields' letters, X for the block and P for the picks.
func kind(do uint8) (word, fields string) {
	switch do {
	case api.ActIngest:
		return "ingest", "SX"
	case api.ActUndo:
		return "undo", "S"
	case api.ActLink:
		return "link", "KS"
	case api.ActCut:
		return "cut", "K"
	case api.ActUp:
		return "up", "KN"
	case api.ActDown:
		return "down", "KN"
	case api.ActSay:
		return "say", "KB"
	case api.ActCrash:
		return "crash", "P"
	case api.ActFuse:
		return "fuse", "N"
	case api.ActCompact:
		return "compact", ""
	}
	return "", ""
}

// Form: an act's line. (P28.1)
func Form(a api.Act) (string, api.Errno) {
	word, fields := kind(a.Do)
	if word == "" || slices.ContainsFunc(a.Block.Txs, func(t api.Tx) bool { return !tx.May(t) }) {
		return "", api.ErrArg
	}
	words := []string{word}
	for _, field := range fields {
		// What was told is taken out of a, so that what is left may not be.
		switch field {
		case 'K':
			words, a.K = append(words, strconv.Itoa(a.K)), 0
		case 'S':
			words, a.S = append(words, strconv.Itoa(a.S)), 0
		case 'N':
			words, a.N = append(words, strconv.Itoa(a.N)), 0
		case 'B':
			words, a.B = append(words, letters(a.B)), nil
		case 'X':
			words, a.Block = append(words, letters(putBlock(a.Block))), api.Block{}
		case 'P':
			for _, n := range a.Picks {
				words = append(words, strconv.Itoa(n))
			}
			a.Picks = nil
		}
	}
	if a.K != 0 || a.S != 0 || a.N != 0 || len(a.B) > 0 || len(a.Picks) > 0 || a.Block.Header != (api.Header{}) || len(a.Block.Txs) > 0 {
		return "", api.ErrArg
	}
	return strings.Join(words, " "), api.OK
}

func letters(b []byte) string {
	if len(b) == 0 {
		return none
	}
	return octet.Hex(b)
}

func putBlock(b api.Block) []byte {
	out := octet.PutVar(header.Put(b.Header), uint64(len(b.Txs)))
	for _, t := range b.Txs {
		raw := tx.Put(t)
		out = append(octet.PutVar(out, uint64(len(raw))), raw...)
	}
	return out
}

// Read: the act whose line this is. (P28.1)
func Read(line string) (api.Act, api.Errno) {
	var words []string
	for word := range strings.SplitSeq(line, " ") {
		words = append(words, word)
	}
	a := api.Act{Do: actOf(words[0])}
	r := reader{words: words[1:]}
	_, fields := kind(a.Do)
	for _, field := range fields {
		switch field {
		case 'K':
			a.K = r.number()
		case 'S':
			a.S = r.number()
		case 'N':
			a.N = r.number()
		case 'B':
			a.B = r.bytes()
		case 'X':
			a.Block = blockOf(r.bytes())
		case 'P':
			for len(r.words) > 0 {
				a.Picks = append(a.Picks, r.number())
			}
		}
	}
	// What is written in another way than Form has it is no act's: so a word that is wanting, or says nothing, may be read as zero.
	if again, e := Form(a); e != api.OK || again != line {
		return api.Act{}, api.ErrBytes
	}
	return a, api.OK
}

// actOf is the act of a word; 0, if there is none.
func actOf(word string) uint8 {
	for do := api.ActIngest; do <= api.ActCompact; do++ {
		if w, _ := kind(do); w == word {
			return do
		}
	}
	return 0
}

// reader of words; what is wanting, or says nothing, is zero.
type reader struct{ words []string }

func (r *reader) word() string {
	if len(r.words) == 0 {
		return ""
	}
	word := r.words[0]
	r.words = r.words[1:]
	return word
}

func (r *reader) number() int {
	n, _ := strconv.Atoi(r.word())
	return n
}

func (r *reader) bytes() []byte {
	b, _ := octet.Unhex(r.word())
	return b
}

// blockOf is the block whose bytes these are, as far as they are a block's.
func blockOf(raw []byte) api.Block {
	var b api.Block
	head, at, _ := octet.Some(raw, 0, headerSize)
	b.Header, _ = header.Get(head)
	count, at, e := octet.TakeVar(raw, at)
	for n := uint64(0); n < count && e == api.OK; n++ {
		var part []byte
		var t api.Tx
		if part, at, e = takeItem(raw, at); e == api.OK {
			t, e = tx.Get(part)
			b.Txs = append(b.Txs, t)
		}
	}
	return b
}

// takeItem takes bytes of which it stands ahead how many they are.
func takeItem(raw []byte, at int) (part []byte, next int, e api.Errno) {
	size, next, e := octet.TakeVar(raw, at)
	if e != api.OK {
		return nil, 0, e
	}
	return octet.Some(raw, next, size)
}
