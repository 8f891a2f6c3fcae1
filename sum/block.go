package sum

import (
	"iter"
	"math/bits"

	"scrivener/api"
)

// countAt is where a last block has the count of bits.
const countAt = 64 - 8

// first is the state ahead of the first block (FIPS 180-4, 5.3.3).
var first = [8]uint32{
	0x6a09e667, 0xbb67ae85, 0x3c6ef372, 0xa54ff53a,
	0x510e527f, 0x9b05688c, 0x1f83d9ab, 0x5be0cd19,
}

// rounds has a word for each round of a block (FIPS 180-4, 4.2.2).
var rounds = [64]uint32{
	0x428a2f98, 0x71374491, 0xb5c0fbcf, 0xe9b5dba5, 0x3956c25b, 0x59f111f1, 0x923f82a4, 0xab1c5ed5,
	0xd807aa98, 0x12835b01, 0x243185be, 0x550c7dc3, 0x72be5d74, 0x80deb1fe, 0x9bdc06a7, 0xc19bf174,
	0xe49b69c1, 0xefbe4786, 0x0fc19dc6, 0x240ca1cc, 0x2de92c6f, 0x4a7484aa, 0x5cb0a9dc, 0x76f988da,
	0x983e5152, 0xa831c66d, 0xb00327c8, 0xbf597fc7, 0xc6e00bf3, 0xd5a79147, 0x06ca6351, 0x14292967,
	0x27b70a85, 0x2e1b2138, 0x4d2c6dfc, 0x53380d13, 0x650a7354, 0x766a0abb, 0x81c2c92e, 0x92722c85,
	0xa2bfe8a1, 0xa81a664b, 0xc24b8b70, 0xc76c51a3, 0xd192e819, 0xd6990624, 0xf40e3585, 0x106aa070,
	0x19a4c116, 0x1e376c08, 0x2748774c, 0x34b0bcb5, 0x391c0cb3, 0x4ed8aa4a, 0x5b9cca4f, 0x682e6ff3,
	0x748f82ee, 0x78a5636f, 0x84c87814, 0x8cc70208, 0x90befffa, 0xa4506ceb, 0xbef9a3f7, 0xc67178f2,
}

// blocks is Blocks of parts that stay as they are till the loop is over.
func blocks(parts ...[]byte) iter.Seq[[64]byte] {
	return func(yield func([64]byte) bool) {
		var block [64]byte
		filled, size := 0, uint64(0)
		for _, part := range parts {
			size += uint64(len(part))
			for len(part) > 0 {
				n := copy(block[filled:], part)
				part, filled = part[n:], filled+n
				if filled < len(block) {
					continue
				}
				if !yield(block) {
					return
				}
				filled = 0
			}
		}
		end(block[:filled], size, yield)
	}
}

// end hands on the last blocks, of which the first begins with the bytes that are left of so many.
func end(rest []byte, size uint64, yield func([64]byte) bool) {
	var block [64]byte
	block[copy(block[:], rest)] = 128
	if len(rest) >= countAt { // the count has no room behind the byte 128
		if !yield(block) {
			return
		}
		block = [64]byte{}
	}
	count := size * 8
	for i := range 8 {
		block[countAt+i] = byte(count >> (56 - 8*i))
	}
	yield(block)
}

// mix: the state behind a block (FIPS 180-4, 6.2.2).
func mix(s [8]uint32, block [64]byte) [8]uint32 {
	words := schedule(block)
	a, b, c, d, e, f, g, h := s[0], s[1], s[2], s[3], s[4], s[5], s[6], s[7]
	for i, word := range words {
		turned := bits.RotateLeft32(e, -6) ^ bits.RotateLeft32(e, -11) ^ bits.RotateLeft32(e, -25)
		one := h + turned + (e&f ^ ^e&g) + rounds[i] + word
		turned = bits.RotateLeft32(a, -2) ^ bits.RotateLeft32(a, -13) ^ bits.RotateLeft32(a, -22)
		two := turned + (a&b ^ a&c ^ b&c)
		h, g, f, e, d, c, b, a = g, f, e, d+one, c, b, a, one+two
	}
	return [8]uint32{s[0] + a, s[1] + b, s[2] + c, s[3] + d, s[4] + e, s[5] + f, s[6] + g, s[7] + h}
}

// schedule: a word for each round: those of the block, and each further one of four ahead of it.
func schedule(block [64]byte) [64]uint32 {
	var w [64]uint32
	for i := range 16 {
		w[i] = uint32(block[4*i])<<24 | uint32(block[4*i+1])<<16 | uint32(block[4*i+2])<<8 | uint32(block[4*i+3])
	}
	for i := 16; i < 64; i++ {
		x, y := w[i-15], w[i-2]
		x = bits.RotateLeft32(x, -7) ^ bits.RotateLeft32(x, -18) ^ x>>3
		y = bits.RotateLeft32(y, -17) ^ bits.RotateLeft32(y, -19) ^ y>>10
		w[i] = w[i-16] + x + w[i-7] + y
	}
	return w
}

// id: a state as bytes, each word's highest byte first.
func id(s [8]uint32) api.ID {
	var out api.ID
	for i, word := range s {
		for j := range 4 {
			out[4*i+j] = byte(word >> (24 - 8*j))
		}
	}
	return out
}
