// Package mask is layer 1: branch-free choices on words and bytes; see shared/doc/01-mask.md.
//
// Lengths, and whether a place is there at all, are open to everybody: branches hang on these alone.
package mask

import (
	"math/bits"

	"tryst/api"
)

// Bit spreads the bit by its sign: -1 has ones alone.
func Bit(b uint64) uint64 { return uint64(-int64(b & 1)) }

// Zero asks for the top bit, which x or -x has unless x is 0.
func Zero(x uint64) uint64 { return ^Bit((x | -x) >> 63) }

func Equal(x, y uint64) uint64 { return Zero(x ^ y) }

// Less asks for the borrow, since a comparison might become a branch.
func Less(x, y uint64) uint64 {
	_, borrow := bits.Sub64(x, y, 0)
	return Bit(borrow)
}

func Pick(m, x, y uint64) uint64 { return Choose(m, x, y) }

func Swap(m, x, y uint64) (uint64, uint64) { return exchange(m, x, y) }

// Choose cuts m down to T's own bits, so that a signed number is chosen by the bits of its two's complement.
func Choose[T api.Word](m uint64, x, y T) T { return y ^ (x^y)&T(m) }

func exchange[T api.Word](m uint64, x, y T) (T, T) {
	return Choose(m, y, x), Choose(m, x, y)
}

// Same looks at all places, so that nobody learns where the first unlike one is.
func Same(a, b []byte) uint64 {
	if len(a) != len(b) {
		return 0
	}
	unlike := byte(0)
	for i := range a {
		unlike |= a[i] ^ b[i]
	}
	return Zero(uint64(unlike))
}

// Before goes from the last place to the first, so that the first unlike one has the last word without being looked for.
func Before(a, b []byte) uint64 {
	before := Less(uint64(len(a)), uint64(len(b)))
	for i := min(len(a), len(b)) - 1; i >= 0; i-- {
		x, y := uint64(a[i]), uint64(b[i])
		before = Pick(Equal(x, y), before, Less(x, y))
	}
	return before
}

func Copy(m uint64, to, from []byte) api.Errno {
	if len(to) != len(from) {
		return api.ErrLength
	}
	for i := range to {
		to[i] = Choose(m, from[i], to[i])
	}
	return api.OK
}

func Trade(m uint64, a, b []byte) api.Errno {
	if len(a) != len(b) {
		return api.ErrLength
	}
	for i := range a {
		a[i], b[i] = exchange(m, a[i], b[i])
	}
	return api.OK
}

// Row goes through every list, so that the one that is asked for is not told by which memory is read.
func Row(rows [][]byte, at int) ([]byte, api.Errno) {
	if at < 0 || at >= len(rows) {
		return nil, api.ErrArg
	}
	if !alike(rows) {
		return nil, api.ErrLength
	}
	row := make([]byte, len(rows[0]))
	for i := range rows {
		Copy(Equal(uint64(i), uint64(at)), row, rows[i])
	}
	return row, api.OK
}

func alike(rows [][]byte) bool {
	for _, row := range rows {
		if len(row) != len(rows[0]) {
			return false
		}
	}
	return true
}
