package field

import (
	"math/big"
	"testing"
)

// These hold the reckoning to limbs as high as any call may leave them, which hardly any number leads to.

// numberOf goes by the chapter's words: limbs of 51 bits.
func numberOf(x Elem) *big.Int {
	out := new(big.Int)
	for i, limb := range x.limbs {
		out.Add(out, times(power(uint(51*i)), new(big.Int).SetUint64(limb)))
	}
	return out
}

// someLimbs are all mixtures of limbs at both ends.
func someLimbs(ends ...uint64) []Elem {
	out := []Elem{{}}
	for at := range 5 {
		var longer []Elem
		for _, x := range out {
			for _, limb := range ends {
				x.limbs[at] = limb
				longer = append(longer, x)
			}
		}
		out = longer
	}
	return out
}

// checkLimbs wants the number, and limbs that the next call has room for.
func checkLimbs(t *testing.T, what string, got Elem, want *big.Int) {
	t.Helper()
	for i, limb := range got.limbs {
		if limb >= limbBound {
			t.Fatalf("%s leaves %x in limb %d", what, limb, i)
		}
	}
	if unlike := new(big.Int).Sub(numberOf(got), want); unlike.Mod(unlike, thePrime()).Sign() != 0 {
		t.Fatalf("%s = %x, want %x", what, numberOf(got), want)
	}
}

// P8.2: of two numbers.
func TestHighLimbsOfTwo(t *testing.T) {
	elems := someLimbs(0, lowBits, limbBound-1)
	for _, x := range elems {
		v := numberOf(x)
		for _, y := range elems {
			w := numberOf(y)
			checkLimbs(t, "Add", x.Add(y), sum(v, w))
			checkLimbs(t, "Sub", x.Sub(y), new(big.Int).Sub(v, w))
			checkLimbs(t, "Mul", x.Mul(y), times(v, w))
		}
	}
}

// P8.1, P8.2, P8.4: of one number, also where it lies about the prime.
func TestHighLimbsOfOne(t *testing.T) {
	elems := append(someLimbs(0, 1, lowBits-1, lowBits, limbBound-1), someLimbs(lowBits-19, lowBits-18, lowBits-17, lowBits, lowBits+1)...)
	for _, x := range elems {
		v := numberOf(x)
		checkLimbs(t, "Neg", x.Neg(), new(big.Int).Neg(v))
		checkLimbs(t, "Square", x.Square(), times(v, v))
		checkLimbs(t, "Times", x.Times(1<<32-1), times(v, big.NewInt(1<<32-1)))
		checkNumber(t, "Bytes", x, v)
		wantZero := uint64(0)
		if v.Mod(v, thePrime()).Sign() == 0 {
			wantZero = yes
		}
		checkMask(t, "Zero", x.Zero(), wantZero)
		checkMask(t, "Equal", x.Equal(elemOf(v)), yes)
	}
}

// P8.3: powers begin with limbs as high as that, too.
func TestHighLimbsOfPowers(t *testing.T) {
	for _, x := range someLimbs(lowBits, limbBound-1) {
		v := numberOf(x)
		checkLimbs(t, "Power", x.Power(littleBytes(plus(power(256), -1))), new(big.Int).Exp(v, plus(power(256), -1), thePrime()))
		checkLimbs(t, "Invert", x.Invert(), new(big.Int).Exp(v, plus(thePrime(), -2), thePrime()))
	}
}
