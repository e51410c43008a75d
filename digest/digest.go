// Package digest is layer 2: SHA-256.
package digest

import (
	"math/bits"

	"coxswain/api"
)

const (
	blockSize = 64 // bytes
	rounds    = 64
	lengthAt  = 56 // where in the last block the number of bits stands
	digits    = "0123456789abcdef"
)

// roundWords: the first 32 bits behind the point of the cube roots of the
// first 64 primes.
var roundWords = [rounds]uint32{
	0x428a2f98, 0x71374491, 0xb5c0fbcf, 0xe9b5dba5, 0x3956c25b, 0x59f111f1, 0x923f82a4, 0xab1c5ed5,
	0xd807aa98, 0x12835b01, 0x243185be, 0x550c7dc3, 0x72be5d74, 0x80deb1fe, 0x9bdc06a7, 0xc19bf174,
	0xe49b69c1, 0xefbe4786, 0x0fc19dc6, 0x240ca1cc, 0x2de92c6f, 0x4a7484aa, 0x5cb0a9dc, 0x76f988da,
	0x983e5152, 0xa831c66d, 0xb00327c8, 0xbf597fc7, 0xc6e00bf3, 0xd5a79147, 0x06ca6351, 0x14292967,
	0x27b70a85, 0x2e1b2138, 0x4d2c6dfc, 0x53380d13, 0x650a7354, 0x766a0abb, 0x81c2c92e, 0x92722c85,
	0xa2bfe8a1, 0xa81a664b, 0xc24b8b70, 0xc76c51a3, 0xd192e819, 0xd6990624, 0xf40e3585, 0x106aa070,
	0x19a4c116, 0x1e376c08, 0x2748774c, 0x34b0bcb5, 0x391c0cb3, 0x4ed8aa4a, 0x5b9cca4f, 0x682e6ff3,
	0x748f82ee, 0x78a5636f, 0x84c87814, 0x8cc70208, 0x90befffa, 0xa4506ceb, 0xbef9a3f7, 0xc67178f2,
}

// sum is a digest that bytes are added to: the eight words behind all whole
// blocks, the block that isn't whole yet, and how many bytes there were.
type sum struct {
	words [8]uint32
	block [blockSize]byte
	count uint64
}

// begin answers a sum of no bytes: its words are the first 32 bits behind the
// point of the square roots of the first eight primes.
func begin() sum {
	return sum{words: [8]uint32{
		0x6a09e667, 0xbb67ae85, 0x3c6ef372, 0xa54ff53a, 0x510e527f, 0x9b05688c, 0x1f83d9ab, 0x5be0cd19,
	}}
}

// add takes one byte more.
func (s *sum) add(b byte) {
	s.block[s.count%blockSize] = b
	s.count++
	if s.count%blockSize == 0 {
		s.mix()
	}
}

// text takes all bytes of a text.
func (s *sum) text(t string) {
	for i := range len(t) {
		s.add(t[i])
	}
}

// pad fills the last block: a byte 80, noughts, and how many bits there were.
func (s *sum) pad() {
	length := s.count * 8
	s.add(0x80)
	for s.count%blockSize != lengthAt {
		s.add(0)
	}
	for i := range 8 {
		s.add(byte(length >> (8 * (7 - i))))
	}
}

// mix takes a whole block into the words.
func (s *sum) mix() {
	w := s.schedule()
	a, b, c, d := s.words[0], s.words[1], s.words[2], s.words[3]
	e, f, g, h := s.words[4], s.words[5], s.words[6], s.words[7]
	for i := range rounds {
		t := h + (right(e, 6) ^ right(e, 11) ^ right(e, 25)) + (e&f ^ ^e&g) + roundWords[i] + w[i]
		u := (right(a, 2) ^ right(a, 13) ^ right(a, 22)) + (a&b ^ a&c ^ b&c)
		h, g, f, e = g, f, e, d+t
		d, c, b, a = c, b, a, t+u
	}
	for i, x := range [8]uint32{a, b, c, d, e, f, g, h} {
		s.words[i] += x
	}
}

// schedule answers the words of the block, one for each round.
func (s *sum) schedule() [rounds]uint32 {
	var w [rounds]uint32
	for i := range 16 {
		w[i] = word(s.block[4*i], s.block[4*i+1], s.block[4*i+2], s.block[4*i+3])
	}
	for i := 16; i < rounds; i++ {
		x, y := w[i-15], w[i-2]
		w[i] = w[i-16] + (right(x, 7) ^ right(x, 18) ^ x>>3) + w[i-7] + (right(y, 17) ^ right(y, 19) ^ y>>10)
	}
	return w
}

// right turns a word to the right.
func right(x uint32, n int) uint32 { return bits.RotateLeft32(x, -n) }

// word answers the word of four bytes, the highest first.
func word(a, b, c, d byte) uint32 {
	return uint32(a)<<24 | uint32(b)<<16 | uint32(c)<<8 | uint32(d)
}

// Of answers the digest of all bytes of the texts, one behind the other.
func Of(l ...string) api.ID {
	s := begin()
	for _, t := range l {
		s.text(t)
	}
	s.pad()
	var id api.ID
	for i := range len(id) {
		id[i] = byte(s.words[i/4] >> (8 * (3 - i%4)))
	}
	return id
}

// Hex answers two digits for each byte.
func Hex(id api.ID) string {
	var text [2 * len(id)]byte
	for i := range len(id) {
		text[2*i], text[2*i+1] = digits[id[i]>>4], digits[id[i]&15]
	}
	return string(text[:])
}

// Short answers the first eight digits of Hex.
func Short(id api.ID) string { return Hex(id)[:8] }

// Check answers the first four bytes of Of, the highest first.
func Check(l ...string) uint32 {
	id := Of(l...)
	return word(id[0], id[1], id[2], id[3])
}
