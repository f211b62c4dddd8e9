package digest

import (
	"math/bits"

	"tryst/api"
)

const (
	blockSize  = 64
	sizeBytes  = 8 // in which the padding tells how many bits there were
	stateWords = 8
	rounds     = 64
)

// roundWords are the cube roots of the first 64 primes: the first 32 bits behind the point.
var roundWords = [rounds]uint32{
	0x428a2f98, 0x71374491, 0xb5c0fbcf, 0xe9b5dba5, 0x3956c25b, 0x59f111f1, 0x923f82a4, 0xab1c5ed5,
	0xd807aa98, 0x12835b01, 0x243185be, 0x550c7dc3, 0x72be5d74, 0x80deb1fe, 0x9bdc06a7, 0xc19bf174,
	0xe49b69c1, 0xefbe4786, 0x0fc19dc6, 0x240ca1cc, 0x2de92c6f, 0x4a7484aa, 0x5cb0a9dc, 0x76f988da,
	0x983e5152, 0xa831c66d, 0xb00327c8, 0xbf597fc7, 0xc6e00bf3, 0xd5a79147, 0x06ca6351, 0x14292967,
	0x27b70a85, 0x2e1b2138, 0x4d2c6dfc, 0x53380d13, 0x650a7354, 0x766a0abb, 0x81c2c92e, 0x92722c85,
	0xa2bfe8a1, 0xa81a664b, 0xc24b8b70, 0xc76c51a3, 0xd192e819, 0xd6990624, 0xf40e3585, 0x106aa070,
	0x19a4c116, 0x1e376c08, 0x2748774c, 0x34b0bcb5, 0x391c0cb3, 0x4ed8aa4a, 0x5b9cca4f, 0x682e6ff3,
	0x748f82ee, 0x78a5636f, 0x84c87814, 0x8cc70208, 0x90befffa, 0xa4506ceb, 0xbef9a3f7, 0xc67178f2,
}

// mix names its words as the chapter does, so that the two can be held against each other.
func mix(state [stateWords]uint32, block [blockSize]byte) [stateWords]uint32 {
	w := spread(block)
	a, b, c, d := state[0], state[1], state[2], state[3]
	e, f, g, h := state[4], state[5], state[6], state[7]
	for t := range rounds {
		p := h + (rot(e, 6) ^ rot(e, 11) ^ rot(e, 25)) + ((e & f) ^ (^e & g)) + roundWords[t] + w[t]
		q := (rot(a, 2) ^ rot(a, 13) ^ rot(a, 22)) + ((a & b) ^ (a & c) ^ (b & c))
		h, g, f, e, d, c, b, a = g, f, e, d+p, c, b, a, p+q
	}
	for i, word := range [stateWords]uint32{a, b, c, d, e, f, g, h} {
		state[i] += word
	}
	return state
}

// spread makes one word a round of a block's sixteen.
func spread(block [blockSize]byte) [rounds]uint32 {
	var w [rounds]uint32
	for t := range blockSize / 4 {
		w[t] = uint32(block[4*t])<<24 | uint32(block[4*t+1])<<16 | uint32(block[4*t+2])<<8 | uint32(block[4*t+3])
	}
	for t := blockSize / 4; t < rounds; t++ {
		x, y := w[t-15], w[t-2]
		s0 := rot(x, 7) ^ rot(x, 18) ^ x>>3
		s1 := rot(y, 17) ^ rot(y, 19) ^ y>>10
		w[t] = w[t-16] + s0 + w[t-7] + s1
	}
	return w
}

// rot turns to the right, where the library turns to the left.
func rot(x uint32, n int) uint32 { return bits.RotateLeft32(x, -n) }

func bytesOf(state [stateWords]uint32) api.Hash {
	var out api.Hash
	for i := range out {
		out[i] = byte(state[i/4] >> (24 - 8*(i%4)))
	}
	return out
}
