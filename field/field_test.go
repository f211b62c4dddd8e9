package field

import (
	"math/big"
	"math/rand"
	"testing"
)

func power(of uint) *big.Int { return new(big.Int).Lsh(big.NewInt(1), of) }

func sum(x, y *big.Int) *big.Int { return new(big.Int).Add(x, y) }

func times(x, y *big.Int) *big.Int { return new(big.Int).Mul(x, y) }

func plus(x *big.Int, by int64) *big.Int { return sum(x, big.NewInt(by)) }

func thePrime() *big.Int { return plus(power(255), -19) }

// littleNumber goes by the chapter's words: byte i counts 256^i times.
func littleNumber(b [32]byte) *big.Int {
	out := new(big.Int)
	for i, v := range b {
		out.Add(out, times(power(uint(8*i)), big.NewInt(int64(v))))
	}
	return out
}

func littleBytes(x *big.Int) (b [32]byte) {
	x.FillBytes(b[:])
	for i := range 16 {
		b[i], b[31-i] = b[31-i], b[i]
	}
	return b
}

func elemOf(x *big.Int) Elem { return Of(littleBytes(x)) }

// checkNumber wants the one way in which the number, which may be of any size and sign, is written modulo p.
func checkNumber(t *testing.T, what string, got Elem, want *big.Int) {
	t.Helper()
	checkBytes(t, what, got, littleBytes(new(big.Int).Mod(want, thePrime())))
}

// edges are the numbers that the chapter names, and those about limbs, words and the half of the prime.
func edges() []*big.Int {
	var out []*big.Int
	for _, n := range []int64{0, 1, 2, 3, 18, 19, 20, 37, 38, 39} {
		out = append(out, big.NewInt(n), plus(thePrime(), -1-n))
	}
	for _, bit := range []uint{51, 64, 102, 127, 153, 192, 204, 253, 254} {
		out = append(out, plus(power(bit), -1), power(bit), plus(power(bit), 1))
	}
	half := new(big.Int).Rsh(thePrime(), 1)
	return append(out, half, plus(half, 1))
}

func drawn(seed int64, n int) []*big.Int {
	source := rand.New(rand.NewSource(seed))
	var out []*big.Int
	for range n {
		out = append(out, new(big.Int).Rand(source, thePrime()))
	}
	return out
}

// P8.1: 0, 1 and what lies about the prime, with the highest bit set and not.
func TestOfAboutThePrime(t *testing.T) {
	numbers := []*big.Int{plus(power(255), -1)}
	for by := int64(-25); by <= 18; by++ {
		numbers = append(numbers, plus(thePrime(), by))
	}
	for n := range int64(40) {
		numbers = append(numbers, big.NewInt(n))
	}
	for _, x := range append(numbers, drawn(80, 200)...) {
		b := littleBytes(x)
		checkNumber(t, "Of "+x.String(), Of(b), x)
		b[31] |= 0x80
		checkNumber(t, "Of 2^255 and "+x.String(), Of(b), x)
	}
}

// P8.1: every bit and every byte at its place, but the highest bit.
func TestOfPlaces(t *testing.T) {
	for i := range 255 {
		checkNumber(t, "Of one bit", elemOf(power(uint(i))), power(uint(i)))
	}
	checkBytes(t, "Of the highest bit", elemOf(power(255)), [32]byte{})
	for i := range 32 {
		var b [32]byte
		b[i] = 0xff
		want := b
		want[31] &= 0x7f
		checkBytes(t, "Of one byte", Of(b), want)
	}
}

// P8.1: about the words' and the limbs' ends.
func TestSmall(t *testing.T) {
	numbers := []uint64{0, 1, 2, 19, 1<<32 - 1, 1 << 32, 1<<51 - 1, 1 << 51, 1<<51 + 1, 1<<52 - 1, 1 << 63, 1<<64 - 2, 1<<64 - 1}
	source := rand.New(rand.NewSource(81))
	for range 100 {
		numbers = append(numbers, source.Uint64())
	}
	for _, n := range numbers {
		checkNumber(t, "Small", Small(n), new(big.Int).SetUint64(n))
	}
}

// Types: the zero Elem is 0, and goes as 0 through every call.
func TestZeroElem(t *testing.T) {
	var none Elem
	one := Small(1)
	checkBytes(t, "Bytes", none, [32]byte{})
	checkMask(t, "Zero", none.Zero(), yes)
	checkMask(t, "Equal to 0", none.Equal(Small(0)), yes)
	checkMask(t, "Equal to 1", none.Equal(one), 0)
	checkBytes(t, "and 1", none.Add(one), row(1, 0, 0))
	checkBytes(t, "less 1", none.Sub(one), row(0xec, 0xff, 0x7f))
	checkBytes(t, "Neg", none.Neg(), [32]byte{})
	checkBytes(t, "Mul", none.Mul(one), [32]byte{})
	checkBytes(t, "Square", none.Square(), [32]byte{})
	checkBytes(t, "Times", none.Times(1<<32-1), [32]byte{})
	checkBytes(t, "Invert", none.Invert(), [32]byte{})
}

// P8.2: sums, differences and products of all that lies at an edge.
func TestReckoningAtEdges(t *testing.T) {
	numbers := append(edges(), drawn(82, 30)...)
	for _, x := range numbers {
		for _, y := range numbers {
			a, b := elemOf(x), elemOf(y)
			checkNumber(t, "the sum", a.Add(b), sum(x, y))
			checkNumber(t, "the difference", a.Sub(b), new(big.Int).Sub(x, y))
			checkNumber(t, "the product", a.Mul(b), times(x, y))
		}
	}
}

// P8.2: of one number; Times at 0, at 1 and at its greatest.
func TestReckoningOfOne(t *testing.T) {
	counts := []uint32{0, 1, 2, 18, 19, 121665, 121666, 1 << 31, 1<<32 - 2, 1<<32 - 1}
	for _, x := range append(edges(), drawn(83, 100)...) {
		a := elemOf(x)
		checkNumber(t, "Neg", a.Neg(), new(big.Int).Neg(x))
		checkNumber(t, "Square", a.Square(), times(x, x))
		for _, n := range counts {
			checkNumber(t, "Times", a.Times(n), times(x, big.NewInt(int64(n))))
		}
	}
}

// P8.2: many calls, one behind the other, without ever passing through bytes; each beginning meets each call again and again.
func TestReckoningInARow(t *testing.T) {
	source := rand.New(rand.NewSource(84))
	for _, start := range append(edges(), drawn(85, 20)...) {
		x, y := start, plus(thePrime(), -1)
		a, b := elemOf(x), elemOf(y)
		for range 150 {
			n := source.Uint32()
			var next *big.Int
			var made Elem
			switch source.Intn(7) {
			case 0:
				next, made = sum(x, y), a.Add(b)
			case 1:
				next, made = new(big.Int).Sub(x, y), a.Sub(b)
			case 2:
				next, made = times(x, y), a.Mul(b)
			case 3:
				next, made = new(big.Int).Neg(x), a.Neg()
			case 4:
				next, made = times(x, x), a.Square()
			case 5:
				next, made = times(x, big.NewInt(int64(n))), a.Times(n)
			case 6:
				next, made = sum(x, x), a.Add(a)
			}
			x, y = y, next.Mod(next, thePrime())
			a, b = b, made
			checkNumber(t, "what came out", b, y)
		}
	}
}

// P8.2: the same call over and over, so that what one leaves above the limbs is what the next one begins with.
func TestOneCallOverAndOver(t *testing.T) {
	x := plus(thePrime(), -1)
	calls := []struct {
		name string
		call func(Elem) Elem
		want func(*big.Int) *big.Int
	}{
		{"Add of itself", func(a Elem) Elem { return a.Add(a) }, func(v *big.Int) *big.Int { return sum(v, v) }},
		{"Add", func(a Elem) Elem { return a.Add(elemOf(x)) }, func(v *big.Int) *big.Int { return sum(v, x) }},
		{"Sub", func(a Elem) Elem { return a.Sub(elemOf(x)) }, func(v *big.Int) *big.Int { return new(big.Int).Sub(v, x) }},
		{"Neg", Elem.Neg, func(v *big.Int) *big.Int { return new(big.Int).Neg(v) }},
		{"Mul", func(a Elem) Elem { return a.Mul(elemOf(x)) }, func(v *big.Int) *big.Int { return times(v, x) }},
		{"Square", Elem.Square, func(v *big.Int) *big.Int { return times(v, v) }},
		{"Times", func(a Elem) Elem { return a.Times(1<<32 - 1) }, func(v *big.Int) *big.Int { return times(v, big.NewInt(1<<32-1)) }},
	}
	for _, c := range calls {
		for _, v := range []*big.Int{x, big.NewInt(3), plus(power(254), -1)} {
			a := elemOf(v)
			for range 500 {
				a, v = c.call(a), c.want(v)
				v.Mod(v, thePrime())
				checkNumber(t, c.name, a, v)
			}
		}
	}
}

// P8.3: the powers that the chapter names, single bits and drawn ones, of 0 too.
func TestPower(t *testing.T) {
	exponents := []*big.Int{new(big.Int), plus(power(256), -1), power(255), plus(power(255), -1), power(248), power(8)}
	for by := int64(-3); by <= 3; by++ {
		exponents = append(exponents, plus(thePrime(), by))
	}
	for n := range int64(10) {
		exponents = append(exponents, big.NewInt(n))
	}
	source := rand.New(rand.NewSource(86))
	for range 20 {
		exponents = append(exponents, new(big.Int).Rand(source, power(256)))
	}
	bases := []*big.Int{new(big.Int), big.NewInt(1), big.NewInt(2), big.NewInt(9), plus(thePrime(), -1), plus(thePrime(), -2)}
	for _, x := range append(bases, drawn(87, 10)...) {
		for _, e := range exponents {
			checkNumber(t, x.String()+" to the power "+e.String(), elemOf(x).Power(littleBytes(e)), new(big.Int).Exp(x, e, thePrime()))
		}
	}
}

// P8.3: every bit of a power counts, the highest one too.
func TestPowerOfEveryBit(t *testing.T) {
	want := big.NewInt(3)
	for i := range 256 {
		checkNumber(t, "3 to the power of one bit", Small(3).Power(littleBytes(power(uint(i)))), want)
		want = times(want, want)
		want.Mod(want, thePrime())
	}
}

// P8.3: 0, if it is 0, in whatever way it was made.
func TestInvert(t *testing.T) {
	for _, x := range append(edges(), drawn(88, 100)...) {
		want := new(big.Int)
		if x.Sign() != 0 {
			want.ModInverse(x, thePrime())
		}
		checkNumber(t, "Invert of "+x.String(), elemOf(x).Invert(), want)
	}
	checkBytes(t, "Invert of p", elemOf(thePrime()).Invert(), [32]byte{})
	checkBytes(t, "Invert of 1 - 1", Small(1).Sub(Small(1)).Invert(), [32]byte{})
}

// inManyWays makes the number of x so that it is held unlike.
func inManyWays(x *big.Int) []Elem {
	a, most := elemOf(x), plus(thePrime(), -1)
	out := []Elem{
		a,
		a.Add(Elem{}),
		a.Sub(Elem{}),
		a.Neg().Neg(),
		a.Mul(Small(1)),
		a.Times(1),
		a.Add(elemOf(most)).Add(Small(1)),
		a.Sub(elemOf(most)).Sub(Small(1)),
		a.Mul(Small(2)).Mul(Small(2).Invert()),
		a.Power([32]byte{1}),
		a.Power(littleBytes(thePrime())),
		Of(a.Bytes()),
	}
	if above := sum(x, thePrime()); above.BitLen() <= 255 {
		out = append(out, elemOf(above), elemOf(sum(above, power(255))))
	}
	if x.IsUint64() {
		out = append(out, Small(x.Uint64()))
	}
	return out
}

// P8.4: 0 in every way, and numbers that have all but one limb or byte in common with it.
func TestZero(t *testing.T) {
	for _, zero := range inManyWays(new(big.Int)) {
		checkMask(t, "Zero of 0", zero.Zero(), yes)
	}
	for _, x := range append(edges(), drawn(89, 50)...) {
		a := elemOf(x)
		checkMask(t, "Zero of x - x", a.Sub(a).Zero(), yes)
		checkMask(t, "Zero of x and -x", a.Add(a.Neg()).Zero(), yes)
		checkMask(t, "Zero of 0 times x", a.Times(0).Zero(), yes)
		checkMask(t, "Zero of x times p", a.Mul(elemOf(thePrime())).Zero(), yes)
		if x.Sign() != 0 {
			checkMask(t, "Zero of "+x.String(), a.Zero(), 0)
		}
	}
	for i := range 255 {
		checkMask(t, "Zero of one bit", elemOf(power(uint(i))).Zero(), 0)
	}
}

// P8.4, P8.6: a number made in many ways is one, its bytes are the same, and its neighbours are others.
func TestEqual(t *testing.T) {
	for _, x := range append(edges(), drawn(90, 10)...) {
		made, next := inManyWays(x), plus(x, 1)
		others := inManyWays(next.Mod(next, thePrime()))
		for _, a := range made {
			for _, b := range made {
				checkMask(t, "Equal of one", a.Equal(b), yes)
				checkBytes(t, "made in another way", b, a.Bytes())
			}
			for _, b := range others {
				checkMask(t, "Equal of x and x + 1", a.Equal(b), 0)
				checkMask(t, "Equal of x + 1 and x", b.Equal(a), 0)
			}
		}
	}
	for i := range 255 {
		x := drawn(91, 1)[0]
		unlike := new(big.Int).Xor(x, power(uint(i)))
		checkMask(t, "Equal of unlike bits", elemOf(x).Equal(elemOf(unlike)), 0)
	}
}

// P8.5: masks count by their lowest bit alone.
func TestChoices(t *testing.T) {
	masks := []uint64{0, yes, 1, 2, 3, 6, 7, 1 << 32, 1<<32 + 1, 1 << 63, 1<<63 + 1, yes - 1, yes - 2}
	source := rand.New(rand.NewSource(92))
	for range 20 {
		masks = append(masks, source.Uint64())
	}
	numbers := append(edges(), drawn(93, 3)...)
	for _, m := range masks {
		for i, v := range numbers {
			w := numbers[(i+7)%len(numbers)]
			x, y := elemOf(v), elemOf(w)
			first, second := Swap(m, x, y)
			wantFirst, wantSecond := v, w
			if m%2 == 1 {
				wantFirst, wantSecond = w, v
			}
			checkNumber(t, "the first of Swap", first, wantFirst)
			checkNumber(t, "the second of Swap", second, wantSecond)
			checkNumber(t, "Pick", Pick(m, x, y), wantSecond)
		}
	}
}

func checkEqual(t *testing.T, law string, x, y Elem) {
	t.Helper()
	if x.Equal(y) != yes || x.Bytes() != y.Bytes() {
		t.Fatalf("%s: %x and %x", law, x.Bytes(), y.Bytes())
	}
}

// P8.6: the laws, of numbers that calls made.
func TestLaws(t *testing.T) {
	numbers := append(edges(), drawn(94, 15)...)
	one, zero := Small(1), Small(0)
	for i := range numbers {
		x := elemOf(numbers[i]).Sub(one)
		checkEqual(t, "x and 0 is x", x.Add(zero), x)
		checkEqual(t, "x times 1 is x", x.Mul(one), x)
		checkEqual(t, "x - x is 0", x.Sub(x), zero)
		checkEqual(t, "x to the power p is x", x.Power(littleBytes(thePrime())), x)
		checkEqual(t, "Of Bytes of x is x", Of(x.Bytes()), x)
		if x.Zero() == 0 {
			checkEqual(t, "x times its Invert is 1", x.Mul(x.Invert()), one)
		}
		for j := range numbers {
			y, z := elemOf(numbers[j]).Times(1<<32-1), elemOf(numbers[(i+j)%len(numbers)]).Neg()
			checkEqual(t, "sums hang on no order", x.Add(y), y.Add(x))
			checkEqual(t, "products hang on no order", x.Mul(y), y.Mul(x))
			checkEqual(t, "sums hang on no brackets", x.Add(y).Add(z), x.Add(y.Add(z)))
			checkEqual(t, "products hang on no brackets", x.Mul(y).Mul(z), x.Mul(y.Mul(z)))
			checkEqual(t, "products spread over sums", x.Mul(y.Add(z)), x.Mul(y).Add(x.Mul(z)))
		}
	}
}

// R5, R6: no call changes what is handed in, and each answers the same when it is asked again.
func TestNothingIsChanged(t *testing.T) {
	numbers := append(edges(), drawn(95, 20)...)
	for i, v := range numbers {
		e := littleBytes(numbers[(i+3)%len(numbers)])
		b := littleBytes(v)
		x, y := Of(b).Neg(), elemOf(numbers[(i+1)%len(numbers)]).Times(5)
		xBefore, yBefore, eBefore := x, y, e
		all := func() (out []Elem) {
			first, second := Swap(1, x, y)
			out = append(out, x.Add(y), x.Sub(y), x.Neg(), x.Mul(y), x.Square(), x.Times(9), x.Invert(), x.Power(e))
			return append(out, first, second, Pick(1, x, y), Pick(0, x, y), Of(x.Bytes()), Small(x.Zero()), Small(x.Equal(y)))
		}
		once, again := all(), all()
		for i := range once {
			if once[i] != again[i] {
				t.Fatalf("call %d answers another number when it is asked again", i)
			}
		}
		if x != xBefore || y != yBefore || e != eBefore || b != littleBytes(v) {
			t.Fatalf("a call changed what was handed in")
		}
	}
}
