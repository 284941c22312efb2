package digest

import (
	"iter"
	"math/bits"

	"latecomer/api"
)

const (
	blockSize  = 64
	lengthSize = 8 // the last bytes of the last block are the length of the string, in bits
	wordSize   = 4
	rounds     = 64
)

// roundWords has the word k(i) of each round.
var roundWords = [rounds]uint32{
	0x428a2f98, 0x71374491, 0xb5c0fbcf, 0xe9b5dba5, 0x3956c25b, 0x59f111f1, 0x923f82a4, 0xab1c5ed5,
	0xd807aa98, 0x12835b01, 0x243185be, 0x550c7dc3, 0x72be5d74, 0x80deb1fe, 0x9bdc06a7, 0xc19bf174,
	0xe49b69c1, 0xefbe4786, 0x0fc19dc6, 0x240ca1cc, 0x2de92c6f, 0x4a7484aa, 0x5cb0a9dc, 0x76f988da,
	0x983e5152, 0xa831c66d, 0xb00327c8, 0xbf597fc7, 0xc6e00bf3, 0xd5a79147, 0x06ca6351, 0x14292967,
	0x27b70a85, 0x2e1b2138, 0x4d2c6dfc, 0x53380d13, 0x650a7354, 0x766a0abb, 0x81c2c92e, 0x92722c85,
	0xa2bfe8a1, 0xa81a664b, 0xc24b8b70, 0xc76c51a3, 0xd192e819, 0xd6990624, 0xf40e3585, 0x106aa070,
	0x19a4c116, 0x1e376c08, 0x2748774c, 0x34b0bcb5, 0x391c0cb3, 0x4ed8aa4a, 0x5b9cca4f, 0x682e6ff3,
	0x748f82ee, 0x78a5636f, 0x84c87814, 0x8cc70208, 0x90befffa, 0xa4506ceb, 0xbef9a3f7, 0xc67178f2,
}

// sumOf returns the digest of all parts, one after the other; they need not be copied into one string for that.
func sumOf(parts ...string) string {
	words := [8]uint32{0x6a09e667, 0xbb67ae85, 0x3c6ef372, 0xa54ff53a, 0x510e527f, 0x9b05688c, 0x1f83d9ab, 0x5be0cd19}
	for block := range blocks(parts) {
		words = compress(words, block)
	}
	var digest [api.DigestSize]byte
	for i, word := range words {
		for j := range wordSize {
			digest[wordSize*i+j] = byte(word >> (24 - 8*j))
		}
	}
	return string(digest[:])
}

// blocks yields the blocks of all parts, one after the other, and of what extends them.
func blocks(parts []string) iter.Seq[[blockSize]byte] {
	return func(yield func([blockSize]byte) bool) {
		var block [blockSize]byte
		filled, length := 0, uint64(0)
	reading:
		for _, rest := range parts {
			length += uint64(len(rest))
			for {
				n := copy(block[filled:], rest)
				rest = rest[n:]
				filled += n
				if filled < blockSize {
					continue reading // the next part goes on in the same block
				}
				if !yield(block) {
					return
				}
				filled = 0
			}
		}
		block[filled] = 128
		clear(block[filled+1:])
		if filled >= blockSize-lengthSize {
			if !yield(block) {
				return
			}
			clear(block[:])
		}
		for i := range lengthSize {
			block[blockSize-1-i] = byte(8 * length >> (8 * i))
		}
		yield(block)
	}
}

// compress returns what the eight words become with the block.
func compress(words [8]uint32, block [blockSize]byte) [8]uint32 {
	w := schedule(block)
	a, b, c, d, e, f, g, h := words[0], words[1], words[2], words[3], words[4], words[5], words[6], words[7]
	for i := range rounds {
		t := h + (right(e, 6) ^ right(e, 11) ^ right(e, 25)) + ((e & f) ^ (^e & g)) + roundWords[i] + w[i]
		u := (right(a, 2) ^ right(a, 13) ^ right(a, 22)) + ((a & b) ^ (a & c) ^ (b & c))
		h, g, f, e, d, c, b, a = g, f, e, d+t, c, b, a, t+u
	}
	for i, word := range [8]uint32{a, b, c, d, e, f, g, h} {
		words[i] += word
	}
	return words
}

// schedule returns the words w(0) to w(63) of the block.
func schedule(block [blockSize]byte) [rounds]uint32 {
	var w [rounds]uint32
	for i, b := range block {
		w[i/wordSize] = w[i/wordSize]<<8 | uint32(b)
	}
	for i := blockSize / wordSize; i < rounds; i++ {
		x := right(w[i-15], 7) ^ right(w[i-15], 18) ^ w[i-15]>>3
		y := right(w[i-2], 17) ^ right(w[i-2], 19) ^ w[i-2]>>10
		w[i] = w[i-16] + x + w[i-7] + y
	}
	return w
}

// right returns the word rotated right by n bits.
func right(word uint32, n int) uint32 { return bits.RotateLeft32(word, -n) }
