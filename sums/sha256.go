// Package sums: the two sums by which a text is known: its SHA-256 and its CRC-32.
package sums

import "math/bits"

const (
	blockSize = 64
	// lengthAt is where, in the last block, the length of the whole text stands.
	lengthAt = blockSize - 8
)

// Sum is an array, so that sums can be held against each other and be the keys of a map.
type Sum [32]byte

// start: the first 32 bits behind the point of the square roots of the first 8 primes.
var start = [8]uint32{
	0x6a09e667, 0xbb67ae85, 0x3c6ef372, 0xa54ff53a, 0x510e527f, 0x9b05688c, 0x1f83d9ab, 0x5be0cd19,
}

// rounds: the first 32 bits behind the point of the cube roots of the first 64 primes.
var rounds = [64]uint32{
	0x428a2f98, 0x71374491, 0xb5c0fbcf, 0xe9b5dba5, 0x3956c25b, 0x59f111f1, 0x923f82a4, 0xab1c5ed5,
	0xd807aa98, 0x12835b01, 0x243185be, 0x550c7dc3, 0x72be5d74, 0x80deb1fe, 0x9bdc06a7, 0xc19bf174,
	0xe49b69c1, 0xefbe4786, 0x0fc19dc6, 0x240ca1cc, 0x2de92c6f, 0x4a7484aa, 0x5cb0a9dc, 0x76f988da,
	0x983e5152, 0xa831c66d, 0xb00327c8, 0xbf597fc7, 0xc6e00bf3, 0xd5a79147, 0x06ca6351, 0x14292967,
	0x27b70a85, 0x2e1b2138, 0x4d2c6dfc, 0x53380d13, 0x650a7354, 0x766a0abb, 0x81c2c92e, 0x92722c85,
	0xa2bfe8a1, 0xa81a664b, 0xc24b8b70, 0xc76c51a3, 0xd192e819, 0xd6990624, 0xf40e3585, 0x106aa070,
	0x19a4c116, 0x1e376c08, 0x2748774c, 0x34b0bcb5, 0x391c0cb3, 0x4ed8aa4a, 0x5b9cca4f, 0x682e6ff3,
	0x748f82ee, 0x78a5636f, 0x84c87814, 0x8cc70208, 0x90befffa, 0xa4506ceb, 0xbef9a3f7, 0xc67178f2,
}

// Of tells the SHA-256 of a text (FIPS 180-4).
func Of(text string) Sum {
	state := start
	rest := text
	for ; len(rest) >= blockSize; rest = rest[blockSize:] {
		var block [blockSize]byte
		copy(block[:], rest)
		state = mixed(state, block)
	}
	return told(ended(state, rest, uint64(len(text))*8))
}

// ended mixes in what is left of a text, the mark of its end and its length in bits.
func ended(state [8]uint32, rest string, length uint64) [8]uint32 {
	var block [blockSize]byte
	n := copy(block[:], rest)
	block[n] = 0x80
	if n >= lengthAt { // the mark has taken the length's room: that needs a block of its own
		state = mixed(state, block)
		clear(block[:])
	}
	for i := range 8 {
		block[lengthAt+i] = byte(length >> (56 - 8*i))
	}
	return mixed(state, block)
}

// told lays out the state's words, the high byte first.
func told(state [8]uint32) Sum {
	var sum Sum
	for i := range len(sum) {
		sum[i] = byte(state[i/4] >> (24 - 8*(i%4)))
	}
	return sum
}

// mixed is the state behind one more block.
func mixed(state [8]uint32, block [blockSize]byte) [8]uint32 {
	words := spread(block)
	a, b, c, d := state[0], state[1], state[2], state[3]
	e, f, g, h := state[4], state[5], state[6], state[7]
	for i := range 64 {
		choice := e&f ^ ^e&g
		majority := a&b ^ a&c ^ b&c
		one := h + turned(e, 6, 11, 25) + choice + rounds[i] + words[i]
		two := turned(a, 2, 13, 22) + majority
		a, b, c, d, e, f, g, h = one+two, a, b, c, d+one, e, f, g
	}
	for i, v := range [8]uint32{a, b, c, d, e, f, g, h} {
		state[i] += v
	}
	return state
}

// spread makes a block's 16 words into the words of all rounds.
func spread(block [blockSize]byte) [64]uint32 {
	var words [64]uint32
	for i, b := range block {
		words[i/4] = words[i/4]<<8 | uint32(b)
	}
	for i := range 48 {
		x, y := words[i+1], words[i+14]
		low := right(x, 7) ^ right(x, 18) ^ x>>3
		high := right(y, 17) ^ right(y, 19) ^ y>>10
		words[i+16] = words[i] + low + words[i+9] + high
	}
	return words
}

// turned is a word turned right three times over, the three laid on each other.
func turned(x uint32, i, j, k int) uint32 { return right(x, i) ^ right(x, j) ^ right(x, k) }

func right(x uint32, n int) uint32 { return bits.RotateLeft32(x, -n) }
