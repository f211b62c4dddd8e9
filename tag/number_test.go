package tag

import (
	"math/big"
	"math/rand"
	"testing"
)

// These hold the arithmetic to numbers that no text that could be written down leads to.

func power(of uint) *big.Int { return new(big.Int).Lsh(big.NewInt(1), of) }

func sum(x, y *big.Int) *big.Int { return new(big.Int).Add(x, y) }

func thePrime() *big.Int { return sum(power(130), big.NewInt(-5)) }

func bigOf(words ...uint64) *big.Int {
	out := new(big.Int)
	for i, word := range words {
		out.Add(out, new(big.Int).Lsh(new(big.Int).SetUint64(word), uint(64*i)))
	}
	return out
}

func numberOf(x *big.Int) (out number) {
	for i := range out {
		out[i] = new(big.Int).Rsh(x, uint(64*i)).Uint64()
	}
	return out
}

// numbersBelow are numbers at both ends, about powers of two and the prime, and drawn ones.
func numbersBelow(bound *big.Int) []*big.Int {
	var out []*big.Int
	centers := []*big.Int{new(big.Int), power(64), power(127), power(128), power(129), thePrime(), sum(power(130), power(127)), bound}
	for _, center := range centers {
		for by := int64(-7); by <= 7; by++ {
			if x := sum(center, big.NewInt(by)); x.Sign() >= 0 && x.Cmp(bound) < 0 {
				out = append(out, x)
			}
		}
	}
	source := rand.New(rand.NewSource(70))
	for range 300 {
		out = append(out, new(big.Int).Rand(source, bound))
	}
	return out
}

// someRs are r at its ends, of single bits, and drawn ones, all without the bits that are taken as 0.
func someRs() []pair {
	rs := []pair{{}, {1}, {2}, {0, 4}, {lowBits, 0}, {0, highBits}, {lowBits, highBits}}
	for i := range 64 {
		rs = append(rs, pair{1 << i & lowBits, 0}, pair{0, 1 << i & highBits})
	}
	source := rand.New(rand.NewSource(71))
	for range 50 {
		rs = append(rs, pair{source.Uint64() & lowBits, source.Uint64() & highBits})
	}
	return rs
}

// P6.1: a product is exact, and what it folds to is the same modulo the prime, and low enough for the next chunk.
func TestProductsFold(t *testing.T) {
	most := sum(power(130), power(128))
	for _, x := range numbersBelow(power(131)) {
		for _, r := range someRs() {
			words := numberOf(x).times(r)
			product := bigOf(words[:]...)
			if want := new(big.Int).Mul(x, bigOf(r[:]...)); product.Cmp(want) != 0 {
				t.Fatalf("%x times %x = %x, want %x", x, r, product, want)
			}
			out := folded(words)
			got := bigOf(out[:]...)
			if got.Cmp(most) >= 0 {
				t.Fatalf("%x folds to %x, which is too much", product, got)
			}
			if got.Mod(got, thePrime()).Cmp(product.Mod(product, thePrime())) != 0 {
				t.Fatalf("%x times %x folds to another number", x, r)
			}
		}
	}
}

// P6.1: below, at and above the prime.
func TestReduced(t *testing.T) {
	for _, x := range numbersBelow(new(big.Int).Lsh(thePrime(), 1)) {
		out := numberOf(x).reduced()
		if got, want := bigOf(out[:]...), new(big.Int).Mod(x, thePrime()); got.Cmp(want) != 0 {
			t.Fatalf("%x is reduced to %x, want %x", x, got, want)
		}
	}
}

// P6.1: every carry from word to word.
func TestNumbersAdd(t *testing.T) {
	numbers := numbersBelow(sum(power(130), power(128)))
	for _, x := range numbers {
		for _, y := range numbers {
			out := numberOf(x).plus(numberOf(y))
			if got, want := bigOf(out[:]...), sum(x, y); got.Cmp(want) != 0 {
				t.Fatalf("%x and %x = %x, want %x", x, y, got, want)
			}
		}
	}
}

// R5: what was taken in as a whole chunk does not lie about in a poly.
func TestNoTakenByteIsKept(t *testing.T) {
	for n := range 70 {
		p := New(keyOf(firstKey))
		p.Write(repeated(9, n))
		if p.filled != n%16 {
			t.Fatalf("of %d bytes %d wait", n, p.filled)
		}
		for i, b := range p.open {
			if i >= p.filled && b != 0 {
				t.Fatalf("of %d bytes one is kept at %d", n, i)
			}
		}
	}
}
