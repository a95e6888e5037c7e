// Package sha is layer 1: SHA-256. See shared/doc/01-sha.md.
package sha

import (
	"math/bits"

	"scantling/api"
)

const (
	pieceSize = 64
	lengthAt  = 56 // where in the last piece the number of bits begins
)

// start are the words that a sum begins with.
var start = [8]uint32{
	0x6a09e667, 0xbb67ae85, 0x3c6ef372, 0xa54ff53a, 0x510e527f, 0x9b05688c, 0x1f83d9ab, 0x5be0cd19,
}

// roots are the first 32 bits behind the point of the cube roots of the first 64 primes.
var roots = [64]uint32{
	0x428a2f98, 0x71374491, 0xb5c0fbcf, 0xe9b5dba5, 0x3956c25b, 0x59f111f1, 0x923f82a4, 0xab1c5ed5,
	0xd807aa98, 0x12835b01, 0x243185be, 0x550c7dc3, 0x72be5d74, 0x80deb1fe, 0x9bdc06a7, 0xc19bf174,
	0xe49b69c1, 0xefbe4786, 0x0fc19dc6, 0x240ca1cc, 0x2de92c6f, 0x4a7484aa, 0x5cb0a9dc, 0x76f988da,
	0x983e5152, 0xa831c66d, 0xb00327c8, 0xbf597fc7, 0xc6e00bf3, 0xd5a79147, 0x06ca6351, 0x14292967,
	0x27b70a85, 0x2e1b2138, 0x4d2c6dfc, 0x53380d13, 0x650a7354, 0x766a0abb, 0x81c2c92e, 0x92722c85,
	0xa2bfe8a1, 0xa81a664b, 0xc24b8b70, 0xc76c51a3, 0xd192e819, 0xd6990624, 0xf40e3585, 0x106aa070,
	0x19a4c116, 0x1e376c08, 0x2748774c, 0x34b0bcb5, 0x391c0cb3, 0x4ed8aa4a, 0x5b9cca4f, 0x682e6ff3,
	0x748f82ee, 0x78a5636f, 0x84c87814, 0x8cc70208, 0x90befffa, 0xa4506ceb, 0xbef9a3f7, 0xc67178f2,
}

// State of some bytes that were added.
type State struct {
	words [8]uint32       // behind all full pieces; without meaning ahead of the first one, so that a zero State is a begun one
	part  [pieceSize]byte // the piece that is not full yet; noughts behind its bytes
	count uint64          // how many bytes were added
}

// Begin: a state of no bytes. (P1.2)
func Begin() State { return State{} }

// Add: the state with bytes behind. (P1.2)
func (s State) Add(b []byte) State {
	words := s.sum()
	full := int(s.count % pieceSize)
	s.count += uint64(len(b))
	for len(b) > 0 {
		n := copy(s.part[full:], b)
		b = b[n:]
		full += n
		if full == pieceSize {
			words = mix(words, s.part)
			s.part, full = [pieceSize]byte{}, 0
		}
	}
	if s.count >= pieceSize {
		s.words = words
	}
	return s
}

// End: the sum of the state's bytes. (P1.2)
func (s State) End() api.Hash {
	words, last := s.sum(), s.part
	full := int(s.count % pieceSize)
	last[full] = 0x80
	if full >= lengthAt {
		words = mix(words, last)
		last = [pieceSize]byte{}
	}
	length := s.count * 8
	for i := range 8 {
		last[lengthAt+i] = byte(length >> (56 - 8*i))
	}
	return bytesOf(mix(words, last))
}

// Sum: of bytes. (P1.1)
func Sum(b []byte) api.Hash { return Begin().Add(b).End() }

// Twice: the sum of the sum. (P1.1)
func Twice(b []byte) api.Hash {
	h := Sum(b)
	return Sum(h[:])
}

// sum is the eight words behind all full pieces.
func (s State) sum() [8]uint32 {
	if s.count < pieceSize {
		return start
	}
	return s.words
}

// bytesOf is eight words as bytes, the highest byte of each first.
func bytesOf(words [8]uint32) api.Hash {
	var h api.Hash
	for i, x := range words {
		h[4*i], h[4*i+1], h[4*i+2], h[4*i+3] = byte(x>>24), byte(x>>16), byte(x>>8), byte(x)
	}
	return h
}

// spread makes the 64 words w(t) of a piece.
func spread(piece [pieceSize]byte) [64]uint32 {
	var w [64]uint32
	for t := range 16 {
		w[t] = uint32(piece[4*t])<<24 | uint32(piece[4*t+1])<<16 | uint32(piece[4*t+2])<<8 | uint32(piece[4*t+3])
	}
	for t := 16; t < 64; t++ {
		x, y := w[t-15], w[t-2]
		s0 := bits.RotateLeft32(x, -7) ^ bits.RotateLeft32(x, -18) ^ x>>3
		s1 := bits.RotateLeft32(y, -17) ^ bits.RotateLeft32(y, -19) ^ y>>10
		w[t] = s1 + w[t-7] + s0 + w[t-16]
	}
	return w
}

// mix is the eight words behind one piece more.
func mix(words [8]uint32, piece [pieceSize]byte) [8]uint32 {
	w := spread(piece)
	a, b, c, d := words[0], words[1], words[2], words[3]
	e, f, g, h := words[4], words[5], words[6], words[7]
	for t := range 64 {
		s1 := bits.RotateLeft32(e, -6) ^ bits.RotateLeft32(e, -11) ^ bits.RotateLeft32(e, -25)
		s0 := bits.RotateLeft32(a, -2) ^ bits.RotateLeft32(a, -13) ^ bits.RotateLeft32(a, -22)
		x := h + s1 + (e&f ^ ^e&g) + roots[t] + w[t]
		y := s0 + (a&b ^ a&c ^ b&c)
		h, g, f, e, d, c, b, a = g, f, e, d+x, c, b, a, x+y
	}
	return [8]uint32{
		words[0] + a, words[1] + b, words[2] + c, words[3] + d,
		words[4] + e, words[5] + f, words[6] + g, words[7] + h,
	}
}
