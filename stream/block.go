package stream

import (
	"math/bits"

	"tryst/api"
	"tryst/octet"
)

// The rows of the state, from the top down.
const (
	fixedRow = iota // the same in every state
	keyRow
	keyEndRow
	counterRow // the counter, and the nonce behind it
	rows
)

const (
	columns   = 4
	wordSize  = 4
	blockSize = rows * columns * wordSize
	passes    = 10
)

// state holds its words row behind row.
type state [rows * columns]uint32

func Quarter(a, b, c, d uint32) (uint32, uint32, uint32, uint32) {
	a, b, c, d = half(a, b, c, d, 16, 12)
	return half(a, b, c, d, 8, 7)
}

// half takes four of Quarter's steps; the other four are the same but for how far they turn.
func half(a, b, c, d uint32, turnD, turnB int) (uint32, uint32, uint32, uint32) {
	a += b
	d ^= a
	d = bits.RotateLeft32(d, turnD)
	c += d
	b ^= c
	b = bits.RotateLeft32(b, turnB)
	return a, b, c, d
}

func Block(key api.Key, counter uint32, nonce api.Nonce) [64]byte {
	begun := begin(key, counter, nonce)
	return bytesOf(plus(stirred(begun), begun))
}

func begin(key api.Key, counter uint32, nonce api.Nonce) state {
	s := state{0x61707865, 0x3320646e, 0x79622d32, 0x6b206574}
	s = with(s, cell(keyRow, 0), key[:])
	s[cell(counterRow, 0)] = counter
	return with(s, cell(counterRow, 1), nonce[:])
}

// with lays the words of b from a place on. Each is taken from as many bytes as it has, so octet finds no fault.
func with(s state, from uint, b []byte) state {
	for i := 0; i < len(b); i += wordSize {
		s[from], _ = octet.Little[uint32](b[i : i+wordSize])
		from++
	}
	return s
}

// stirred hands Quarter one word of each row, from each column on: straight down at first, then down the diagonals, where each row's word stands one further to the right than the one above it.
func stirred(s state) state {
	for range passes {
		for slant := range uint(2) {
			for column := range uint(columns) {
				a := cell(fixedRow, column)
				b := cell(keyRow, column+slant)
				c := cell(keyEndRow, column+2*slant)
				d := cell(counterRow, column+3*slant)
				s[a], s[b], s[c], s[d] = Quarter(s[a], s[b], s[c], s[d])
			}
		}
	}
	return s
}

// cell goes round at a row's end, as the diagonals do.
func cell(row, column uint) uint { return row*columns + column%columns }

func plus(s, other state) state {
	for i, word := range other {
		s[i] += word
	}
	return s
}

func bytesOf(s state) [blockSize]byte {
	var out [blockSize]byte
	for i, word := range s {
		copy(out[i*wordSize:], octet.PutLittle(nil, word))
	}
	return out
}
