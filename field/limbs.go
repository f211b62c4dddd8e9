package field

import "math/bits"

// Limb i counts 2^(51 i) times. What stands from 2^255 on counts wrap times at the lowest limb, since 2^255 is 19 modulo the prime.
const (
	limbBits  = 51
	lowBits   = 1<<limbBits - 1
	limbBound = 1<<limbBits + 1<<14
	wrap      = 19
)

// carry takes limbs below 2^60. All carries are taken ahead of the sums, so they are below 2^9, and limbs below 2^51 + 19 * 2^9 come out: below limbBound.
func (x *Elem) carry() {
	over0, over1, over2 := x.limbs[0]>>limbBits, x.limbs[1]>>limbBits, x.limbs[2]>>limbBits
	over3, over4 := x.limbs[3]>>limbBits, x.limbs[4]>>limbBits
	for i := range x.limbs {
		x.limbs[i] &= lowBits
	}
	x.limbs[0] += over4 * wrap
	x.limbs[1] += over0
	x.limbs[2] += over1
	x.limbs[3] += over2
	x.limbs[4] += over3
}

// reduce brings the number below the prime, and its limbs below 2^51. The number is below twice the prime, and the prime is within it just if 19 more come up to 2^255: whether they do is looked for ahead; if so, the 19 are added, and 2^255 is dropped.
func (x *Elem) reduce() {
	reaches := uint64(wrap)
	for _, limb := range x.limbs {
		reaches += limb
		reaches >>= limbBits
	}
	over := reaches * wrap
	for i := range x.limbs {
		x.limbs[i] += over
		over = x.limbs[i] >> limbBits
		x.limbs[i] &= lowBits
	}
}

// fold takes rows whose limbs were below limbBound: so no row comes up to 2^109, and the last one, in which nothing is wrapped, not to 2^105. Then all that is added to a limb is below 2^59, and carry has room for it.
func (x *Elem) fold(row0, row1, row2, row3, row4 wide) {
	x.limbs[0] = row0.rest() + row4.over()*wrap
	x.limbs[1] = row1.rest() + row0.over()
	x.limbs[2] = row2.rest() + row1.over()
	x.limbs[3] = row3.rest() + row2.over()
	x.limbs[4] = row4.rest() + row3.over()
	x.carry()
}

// wide is a sum of products, in 128 bits.
type wide struct {
	low, high uint64
}

func product(x, y uint64) wide {
	high, low := bits.Mul64(x, y)
	return wide{low, high}
}

func (w wide) plus(x, y uint64) wide {
	high, low := bits.Mul64(x, y)
	sum, carry := bits.Add64(w.low, low, 0)
	return wide{sum, w.high + high + carry}
}

func (w wide) rest() uint64 { return w.low & lowBits }

// over is what stands from 2^51 on; of a sum below 2^115 all of it has room.
func (w wide) over() uint64 { return w.high<<(64-limbBits) | w.low>>limbBits }
