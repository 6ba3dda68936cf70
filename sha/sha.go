// Package sha is layer 1: SHA-256 digests, of a whole byte string or piece by piece: see shared/doc/01-sha.md.
package sha

import (
	"math/bits"

	"sealery/api"
)

const (
	blockSize  = 64
	lengthSize = 8 // bytes of the number of bits that ends the padded message
)

// starts are the first 32 fractional bits of the square roots of the first 8 primes.
var starts = [8]uint32{
	0x6a09e667, 0xbb67ae85, 0x3c6ef372, 0xa54ff53a,
	0x510e527f, 0x9b05688c, 0x1f83d9ab, 0x5be0cd19,
}

// constants are the first 32 fractional bits of the cube roots of the first 64 primes.
var constants = [64]uint32{
	0x428a2f98, 0x71374491, 0xb5c0fbcf, 0xe9b5dba5,
	0x3956c25b, 0x59f111f1, 0x923f82a4, 0xab1c5ed5,
	0xd807aa98, 0x12835b01, 0x243185be, 0x550c7dc3,
	0x72be5d74, 0x80deb1fe, 0x9bdc06a7, 0xc19bf174,
	0xe49b69c1, 0xefbe4786, 0x0fc19dc6, 0x240ca1cc,
	0x2de92c6f, 0x4a7484aa, 0x5cb0a9dc, 0x76f988da,
	0x983e5152, 0xa831c66d, 0xb00327c8, 0xbf597fc7,
	0xc6e00bf3, 0xd5a79147, 0x06ca6351, 0x14292967,
	0x27b70a85, 0x2e1b2138, 0x4d2c6dfc, 0x53380d13,
	0x650a7354, 0x766a0abb, 0x81c2c92e, 0x92722c85,
	0xa2bfe8a1, 0xa81a664b, 0xc24b8b70, 0xc76c51a3,
	0xd192e819, 0xd6990624, 0xf40e3585, 0x106aa070,
	0x19a4c116, 0x1e376c08, 0x2748774c, 0x34b0bcb5,
	0x391c0cb3, 0x4ed8aa4a, 0x5b9cca4f, 0x682e6ff3,
	0x748f82ee, 0x78a5636f, 0x84c87814, 0x8cc70208,
	0x90befffa, 0xa4506ceb, 0xbef9a3f7, 0xc67178f2,
}

// Hash is what was written to it. Full blocks are mixed into the words at once, so that it stays small however much is written.
type Hash struct {
	words  [8]uint32
	block  [blockSize]byte // its first length modulo blockSize bytes wait to be mixed in
	length uint64
}

// New is a hash that nothing was written to.
func New() *Hash { return &Hash{words: starts} }

// Write writes bytes behind what was written.
func (h *Hash) Write(b []byte) {
	for len(b) > 0 {
		waits := h.length % blockSize
		n := copy(h.block[waits:], b)
		b = b[n:]
		h.length += uint64(n)
		if h.length%blockSize == 0 {
			h.words = mix(h.words, h.block)
		}
	}
}

// Sum is the digest of all that was written.
func (h *Hash) Sum() api.Sum {
	padded := *h // a copy takes the padding, as more may be written to h
	padded.Write(padding(h.length))
	var s api.Sum
	for i, w := range padded.words {
		s[4*i], s[4*i+1], s[4*i+2], s[4*i+3] = byte(w>>24), byte(w>>16), byte(w>>8), byte(w)
	}
	return s
}

// Sum is the digest of bytes.
func Sum(b []byte) api.Sum {
	h := New()
	h.Write(b)
	return h.Sum()
}

// padding is what makes a padded message of so many bytes.
func padding(length uint64) []byte {
	last := (length + 1 + lengthSize) % blockSize
	zeros := (blockSize - last) % blockSize
	p := make([]byte, 1+zeros, 1+zeros+lengthSize)
	p[0] = 128
	for shift := 64 - 8; shift >= 0; shift -= 8 {
		p = append(p, byte(8*length>>shift))
	}
	return p
}

// mix is what a block makes of the words h.
func mix(h [8]uint32, block [blockSize]byte) [8]uint32 {
	w := schedule(block)
	a, b, c, d, e, f, g, z := h[0], h[1], h[2], h[3], h[4], h[5], h[6], h[7]
	for t := range w {
		choice := e&f | ^e&g
		most := a&b | a&c | b&c
		u := z + turned(e, 6, 11, 25) + choice + constants[t] + w[t]
		v := turned(a, 2, 13, 22) + most
		z, g, f, e, d, c, b, a = g, f, e, d+u, c, b, a, u+v
	}
	return [8]uint32{h[0] + a, h[1] + b, h[2] + c, h[3] + d, h[4] + e, h[5] + f, h[6] + g, h[7] + z}
}

// schedule is a block's words, and those that follow from them.
func schedule(block [blockSize]byte) [64]uint32 {
	var w [64]uint32
	for t := range 16 {
		w[t] = uint32(block[4*t])<<24 | uint32(block[4*t+1])<<16 | uint32(block[4*t+2])<<8 | uint32(block[4*t+3])
	}
	for t := 16; t < 64; t++ {
		s0 := turned(w[t-15], 7, 18) ^ w[t-15]>>3
		s1 := turned(w[t-2], 17, 19) ^ w[t-2]>>10
		w[t] = w[t-16] + s0 + w[t-7] + s1
	}
	return w
}

// turned is the exclusive or of a word's rotations to the right.
func turned(x uint32, by ...int) uint32 {
	var sum uint32
	for _, n := range by {
		sum ^= bits.RotateLeft32(x, -n)
	}
	return sum
}
