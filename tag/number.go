package tag

import (
	"math/bits"

	"tryst/mask"
	"tryst/octet"
)

// The prime 2^130 - 5, word by word, the lowest first.
const (
	primeLow    = 1<<64 - 5
	primeMiddle = 1<<64 - 1
	primeTop    = 3
)

// pair is a number below 2^128: its lower word, then the higher one.
type pair [2]uint64

// number has room for sums that go beyond the prime: three words, the lowest first.
type number [3]uint64

// pairOf hands octet as many bytes as a word has, so octet finds no fault.
func pairOf(b [chunkSize]byte) pair {
	low, _ := octet.Little[uint64](b[:chunkSize/2])
	high, _ := octet.Little[uint64](b[chunkSize/2:])
	return pair{low, high}
}

func product(x, y uint64) pair {
	high, low := bits.Mul64(x, y)
	return pair{low, high}
}

// plus wraps at 2^128, which nothing here but the last sum of a code comes up to.
func (x pair) plus(y pair) pair {
	low, carry := bits.Add64(x[0], y[0], 0)
	high, _ := bits.Add64(x[1], y[1], carry)
	return pair{low, high}
}

func (x number) plus(y number) number {
	low, carry := bits.Add64(x[0], y[0], 0)
	middle, carry := bits.Add64(x[1], y[1], carry)
	return number{low, middle, x[2] + y[2] + carry}
}

// times takes an x below 2^131 and an r with words below 2^60: so the sums of products stay below 2^128, and the product below 2^255.
func (x number) times(r pair) [4]uint64 {
	first := product(x[0], r[0])
	second := product(x[0], r[1]).plus(product(x[1], r[0])).plus(pair{first[1]})
	third := product(x[1], r[1]).plus(product(x[2], r[0])).plus(pair{second[1]})
	return [4]uint64{first[0], second[0], third[0], x[2]*r[1] + third[1]}
}

// folded counts what stands from 2^130 on five times (as it stands in its words, that is four times, and once more), since 2^130 is 5 modulo the prime. Of a product below 2^255 there comes out less than 2^130 + 2^128: not yet all below the prime, but below twice the prime, and with a chunk's number still below 2^131.
func folded(w [4]uint64) number {
	below := number{w[0], w[1], w[2] & 3}
	fourTimes := number{w[2] &^ 3, w[3]}
	once := number{w[2]>>2 | w[3]<<62, w[3] >> 2}
	return below.plus(fourTimes).plus(once)
}

// reduced takes an x below twice the prime. It subtracts in any case and chooses afterwards, so that no branch hangs on the text or the key.
func (x number) reduced() number {
	low, borrow := bits.Sub64(x[0], primeLow, 0)
	middle, borrow := bits.Sub64(x[1], primeMiddle, borrow)
	top, borrow := bits.Sub64(x[2], primeTop, borrow)
	isBelow := mask.Bit(borrow)
	return number{
		mask.Pick(isBelow, x[0], low),
		mask.Pick(isBelow, x[1], middle),
		mask.Pick(isBelow, x[2], top),
	}
}
