package vault

import (
	"bytes"
	"iter"
	"slices"

	"scantling/api"
	"scantling/sha"
)

const (
	checkSize = 32
	lenSize   = 4
	numSize   = 8
	headSize  = numSize + lenSize + checkSize
	maxGen    = 1 << 62
)

// content is what a sound file has.
type content struct {
	gen     uint64
	records [][]byte
	good    int // bytes: the head and the frames
}

// number is a number in so many bytes, the lowest one first.
func number(n uint64, size int) []byte {
	b := make([]byte, size)
	for i := range b {
		b[i] = byte(n >> (8 * i))
	}
	return b
}

// numberOf is the number that bytes are.
func numberOf(b []byte) uint64 {
	n := uint64(0)
	for _, x := range slices.Backward(b) {
		n = n<<8 | uint64(x)
	}
	return n
}

func check(b []byte) []byte {
	h := sha.Twice(b)
	return h[:]
}

// head is what stands at the front of a file.
func head(gen uint64, n int) []byte {
	b := slices.Concat(number(gen, numSize), number(uint64(n), lenSize))
	return append(b, check(b)...)
}

// frame is that of the k-th record of a file.
func frame(gen uint64, k int, rec []byte) []byte {
	b := slices.Concat(number(uint64(len(rec)), lenSize), rec)
	return append(b, frameCheck(gen, k, b)...)
}

func frameCheck(gen uint64, k int, b []byte) []byte {
	return check(slices.Concat(number(gen, numSize), number(uint64(k), numSize), b))
}

// frames are those of some records, the first one being the k-th one of its file.
func frames(gen uint64, k int, l [][]byte) []byte {
	var out []byte
	for i, rec := range l {
		out = append(out, frame(gen, k+i, rec)...)
	}
	return out
}

// contentOf is what stands in a file of that number, and whether that is sound.
func contentOf(b []byte, file int) (content, bool) {
	if len(b) < headSize {
		return content{}, false
	}
	gen, n := numberOf(b[:numSize]), numberOf(b[numSize:numSize+lenSize])
	c := content{gen: gen, good: headSize}
	if !bytes.Equal(check(b[:headSize-checkSize]), b[headSize-checkSize:headSize]) || gen < 1 || gen > maxGen || gen%2 != uint64(file) {
		return content{}, false
	}
	for rec := range whole(b[headSize:], gen) {
		c.records = append(c.records, slices.Clone(rec))
		c.good += lenSize + len(rec) + checkSize
	}
	return c, uint64(len(c.records)) >= n
}

// whole tells the records of a file's frames, up to the first place where none stands whole.
func whole(b []byte, gen uint64) iter.Seq[[]byte] {
	return func(yield func([]byte) bool) {
		for k := 0; len(b) >= lenSize+checkSize; k++ {
			n := numberOf(b[:lenSize])
			if n > api.MaxRecord || n > uint64(len(b)-lenSize-checkSize) {
				return
			}
			end := lenSize + int(n)
			if !bytes.Equal(frameCheck(gen, k, b[:end]), b[end:end+checkSize]) || !yield(b[lenSize:end]) {
				return
			}
			b = b[end+checkSize:]
		}
	}
}
