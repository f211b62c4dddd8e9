package tag

import (
	"bytes"
	"errors"
	"math/big"
	"math/rand"
	"testing"

	"tryst/api"
)

// littleNumber is the number for which bytes stand.
func littleNumber(b []byte) *big.Int {
	out := new(big.Int)
	for i := len(b) - 1; i >= 0; i-- {
		out.Lsh(out, 8)
		out.Add(out, big.NewInt(int64(b[i])))
	}
	return out
}

func littleBytes(x *big.Int, n int) []byte {
	out := make([]byte, n)
	for i := range out {
		out[i] = byte(new(big.Int).Rsh(x, uint(8*i)).Uint64())
	}
	return out
}

// wantedCode goes by the chapter's words.
func wantedCode(key api.Key, text []byte) api.Tag {
	half := bytes.Clone(key[:16])
	for _, i := range []int{3, 7, 11, 15} {
		half[i] %= 16
	}
	for _, i := range []int{4, 8, 12} {
		half[i] -= half[i] % 4
	}
	r, s, a := littleNumber(half), littleNumber(key[16:]), new(big.Int)
	for len(text) > 0 {
		n := min(16, len(text))
		c := littleNumber(append(bytes.Clone(text[:n]), 1))
		text = text[n:]
		a.Add(a, c)
		a.Mul(a, r)
		a.Mod(a, thePrime())
	}
	return api.Tag(littleBytes(sum(a, s), 16))
}

// keyOfHalves lays r and s beside each other.
func keyOfHalves(r, s []byte) (key api.Key) {
	copy(key[:16], r)
	copy(key[16:], s)
	return key
}

func drawnBytes(seed int64, n int) []byte {
	b := make([]byte, n)
	rand.New(rand.NewSource(seed)).Read(b)
	return b
}

// someKeys have halves of 0, of 1, of all the bits that they may have, of all bits, and drawn ones.
func someKeys() []api.Key {
	full := repeated(0xff, 16)
	all := unhex("ffffff0f fcffff0f fcffff0f fcffff0f")
	drawn := drawnBytes(72, 32)
	var keys []api.Key
	for _, r := range [][]byte{nil, {1}, {2}, {5}, all, full, drawn[:16]} {
		for _, s := range [][]byte{nil, {1}, full, drawn[16:]} {
			keys = append(keys, keyOfHalves(r, s))
		}
	}
	return keys
}

// someTexts are of bytes 00, of bytes ff, and of drawn ones, each of n bytes.
func someTexts(n int) [][]byte {
	return [][]byte{make([]byte, n), repeated(0xff, n), drawnBytes(int64(n), n)}
}

func checkCode(t *testing.T, key api.Key, text []byte) {
	t.Helper()
	if got, want := Sum(key, text), wantedCode(key, text); got != want {
		t.Fatalf("Sum under %x of %x = %x, want %x", key, text, got, want)
	}
}

// P6.1: codes of RFC 8439, A.3.
func TestCodesOfTheStandard(t *testing.T) {
	const toves = "'Twas brillig, and the slithy toves\nDid gyre and gimble in the wabe:\nAll mimsy were the borogoves,\nAnd the mome raths outgrabe."
	const ff, fe, zeros = "ffffffffffffffffffffffffffffff", "fefefefefefefefefefefefefefefe", "000000000000000000000000000000"
	const apart = "e33594d7505e43b90000000000000000 3394d7505e4379cd0100000000000000 00" + zeros
	for i, c := range []struct{ key, text, want string }{
		{"02" + zeros, "ff" + ff, "03"},
		{"02" + zeros + "ff" + ff, "02" + zeros, "03"},
		{"01", "ff" + ff + "f0" + ff + "11" + zeros, "05"},
		{"01", "ff" + ff + "fb" + fe + "01010101010101010101010101010101", "00"},
		{"02", "fd" + ff, "fa" + ff},
		{"0100000000000000 04", apart + "01" + zeros, "1400000000000000 55"},
		{"0100000000000000 04", apart, "13"},
	} {
		if got := Sum(keyOf(c.key), unhex(c.text)); got != tagOf(c.want) {
			t.Errorf("code %d = %x, want %s", i, got, c.want)
		}
	}
	key := keyOf("1c9240a5eb55d38af333888604f6b5f0 473917c1402b80099dca5cbc207075c0")
	checkTag(t, "the code of a verse", Sum(key, []byte(toves)), tagOf("4541669a7eaaee61e708dc7cbcc5eb62"))
}

// P6.1: all lengths up to several chunks, and some far ones.
func TestCodesOfAllLengths(t *testing.T) {
	for _, key := range someKeys() {
		for n := range 100 {
			for _, text := range someTexts(n) {
				checkCode(t, key, text)
			}
		}
		for _, n := range []int{255, 256, 257, 1000, 4096} {
			checkCode(t, key, drawnBytes(int64(n), n))
		}
	}
}

// P6.1: drawn keys and texts, each asked twice (R6).
func TestCodesOfAnyKeys(t *testing.T) {
	source := rand.New(rand.NewSource(73))
	for range 3000 {
		var key api.Key
		source.Read(key[:])
		text := drawnBytes(source.Int63(), source.Intn(120))
		checkCode(t, key, text)
		checkCode(t, key, text)
	}
}

// P6.1: each bit of a key alone, and each one missing: also those that are taken as 0.
func TestBitsOfKeys(t *testing.T) {
	text := drawnBytes(74, 53)
	for bit := range 256 {
		var one api.Key
		others := api.Key(repeated(0xff, 32))
		one[bit/8] = 1 << (bit % 8)
		others[bit/8] -= 1 << (bit % 8)
		checkCode(t, one, text)
		checkCode(t, others, text)
	}
}

// P6.1: which bits of the first half count at all.
func TestBitsTakenAsZero(t *testing.T) {
	text := drawnBytes(75, 40)
	open := unhex("000000f0 030000f0 030000f0 030000f0")
	key := api.Key(drawnBytes(76, 32))
	whole := Sum(key, text)
	for bit := range 128 {
		other := key
		other[bit/8] ^= 1 << (bit % 8)
		isOpen := open[bit/8]>>(bit%8)&1 == 1
		if (Sum(other, text) == whole) != isOpen {
			t.Errorf("the bit %d of the byte %d counts: %v", bit%8, bit/8, isOpen)
		}
	}
}

// P6.1, R4: without a part, with nil and empty ones, the code is s.
func TestCodesOfNothing(t *testing.T) {
	for _, key := range someKeys() {
		s := api.Tag(key[16:])
		checkTag(t, "without a part", Sum(key), s)
		checkTag(t, "of no list", Sum(key, [][]byte{}...), s)
		checkTag(t, "of nil", Sum(key, nil), s)
		checkTag(t, "of empty parts", Sum(key, []byte{}, nil, []byte("a")[:0]), s)
		checkTag(t, "of a new poly", New(key).Sum(), s)
		p := New(key)
		checkWrite(t, p, nil)
		checkWrite(t, p, []byte{})
		checkTag(t, "of nothing written", p.Sum(), s)
	}
}

// P6.1: bytes 00 count, wherever they stand, since the byte 01 stands behind them.
func TestZerosCount(t *testing.T) {
	key := keyOf(firstKey)
	seen := map[api.Tag]int{}
	for n := range 200 {
		code := Sum(key, make([]byte, n))
		if other, ok := seen[code]; ok {
			t.Fatalf("%d and %d bytes 00 have one code", other, n)
		}
		seen[code] = n
	}
}

// textOfSum is a text of whole chunks whose numbers c add up to x.
func textOfSum(x *big.Int) []byte {
	least, most := power(128), sum(power(129), big.NewInt(-1))
	chunks := new(big.Int).Div(sum(sum(x, most), big.NewInt(-1)), most).Int64()
	var text []byte
	for rest := chunks - 1; rest >= 0; rest-- {
		c := sum(x, new(big.Int).Mul(least, big.NewInt(-rest)))
		if c.Cmp(most) > 0 {
			c = most
		}
		x = sum(x, new(big.Int).Neg(c))
		text = append(text, littleBytes(c, 16)...)
	}
	return text
}

// P6.1: under r = 1 sums that end just below, at and above the prime and its multiples, and powers of two; with s of 0, and an s with which they pass 2^128.
func TestSumsAboutThePrime(t *testing.T) {
	for _, s := range [][]byte{nil, {1}, {5}, {6}, repeated(0xff, 16)} {
		for times := int64(1); times <= 5; times++ {
			for by := int64(-9); by <= 9; by++ {
				total := sum(new(big.Int).Mul(thePrime(), big.NewInt(times)), big.NewInt(by))
				a := new(big.Int).Mod(total, thePrime())
				want := api.Tag(littleBytes(sum(a, littleNumber(s)), 16))
				checkTag(t, "a sum about the prime", Sum(keyOfHalves([]byte{1}, s), textOfSum(total)), want)
			}
		}
	}
}

// P6.1: under r = 2 one chunk whose double stands about the prime, and short chunks whose double does not come up to it.
func TestDoublesAboutThePrime(t *testing.T) {
	for by := int64(-9); by < 3; by++ {
		c := sum(power(129), big.NewInt(by-3))
		checkCode(t, api.Key{2}, littleBytes(c, 16))
	}
	for n := range 16 {
		checkCode(t, api.Key{2}, repeated(0xff, n))
	}
}

// P6.1: a + s about 2^128, from both sides.
func TestSumsAboutTheirEnd(t *testing.T) {
	text := drawnBytes(77, 32)
	a := littleNumber(tagBytes(Sum(api.Key{1}, text)))
	for by := int64(-3); by <= 3; by++ {
		s := sum(sum(power(128), new(big.Int).Neg(a)), big.NewInt(by))
		want := api.Tag(littleBytes(sum(power(128), big.NewInt(by)), 16))
		checkTag(t, "a sum about 2^128", Sum(keyOfHalves([]byte{1}, littleBytes(s, 16)), text), want)
	}
	for _, half := range []int{8, 16} { // the lower word passes its end, the higher one as well
		key := keyOfHalves([]byte{1}, repeated(0xff, half))
		checkCode(t, key, text)
		checkCode(t, key, repeated(0xff, 48))
	}
}

func tagBytes(tag api.Tag) []byte { return tag[:] }

// P6.2: every byte turned into each other one.
func TestCheckOfTurnedTags(t *testing.T) {
	key := keyOf(firstKey)
	for _, text := range [][]byte{nil, []byte("text"), []byte(firstText)} {
		right := wantedCode(key, text)
		for range 2 {
			if !Check(key, right, text) {
				t.Fatalf("the tag of %q is refused", text)
			}
		}
		for at := range right {
			for by := 1; by < 256; by++ {
				wrong := right
				wrong[at] ^= byte(by)
				if Check(key, wrong, text) {
					t.Fatalf("a tag of %q with the byte %d turned by %#x is taken", text, at, by)
				}
			}
		}
	}
}

// P6.2: two bytes turned alike, or so that their sum stays, all bytes, and their order.
func TestCheckOfTurnedPairs(t *testing.T) {
	key, text := keyOf(firstKey), []byte(firstText)
	right := Sum(key, text)
	for i := range right {
		for j := range i {
			for _, by := range []byte{1, 0x80, 0xff} {
				alike, moved := right, right
				alike[i] ^= by
				alike[j] ^= by
				moved[i] += by
				moved[j] -= by
				if Check(key, alike, text) || Check(key, moved, text) {
					t.Fatalf("a tag with the bytes %d and %d turned is taken", i, j)
				}
			}
		}
	}
	var inverse, backwards api.Tag
	for i, b := range right {
		inverse[i] = ^b
		backwards[15-i] = b
	}
	if Check(key, inverse, text) || Check(key, backwards, text) || Check(key, api.Tag{}, text) {
		t.Error("quite another tag is taken")
	}
}

// P6.2: other texts, other keys; the parts and no part.
func TestCheckGoesByTextAndKey(t *testing.T) {
	key, text := keyOf(firstKey), []byte(firstText)
	right := Sum(key, text)
	if !Check(key, right, text[:5], nil, text[5:17], []byte{}, text[17:]) {
		t.Error("the tag is refused in pieces")
	}
	if Check(key, right) || Check(key, right, nil) || Check(key, right, text[1:]) || Check(key, right, text, []byte{0}) {
		t.Error("the tag of another text is taken")
	}
	if Check(key, right, text[17:], text[:17]) {
		t.Error("the order of the parts does not count")
	}
	for at := range key {
		other := key
		other[at] ^= 0x08
		if Check(other, right, text) {
			t.Errorf("the tag is taken under a key with the byte %d turned", at)
		}
	}
	if s := api.Tag(key[16:]); !Check(key, s) || !Check(key, s, nil, nil) {
		t.Error("the tag of no bytes is refused")
	}
}

// P6.3, P6.4, P6.6: cut in two at every place, asked between or not.
func TestTextsInTwoPieces(t *testing.T) {
	for _, key := range someKeys() {
		for _, n := range []int{0, 1, 15, 16, 17, 31, 32, 33, 70} {
			text := drawnBytes(78, n)
			want := wantedCode(key, text)
			for cut := range n + 1 {
				asked, quiet := New(key), New(key)
				for _, piece := range [][]byte{text[:cut], text[cut:]} {
					checkWrite(t, quiet, piece)
					checkWrite(t, asked, piece)
					asked.Sum()
				}
				checkTag(t, "of an asked poly", asked.Sum(), want)
				checkTag(t, "of a poly", quiet.Sum(), want)
				checkTag(t, "of two parts", Sum(key, text[:cut], text[cut:]), want)
			}
		}
	}
}

// P6.6: cut in three at all places, with empty parts between.
func TestTextsInThreePieces(t *testing.T) {
	key, text := keyOf(firstKey), drawnBytes(79, 50)
	want := wantedCode(key, text)
	for second := range len(text) + 1 {
		for first := range second + 1 {
			checkTag(t, "of three parts", Sum(key, nil, text[:first], []byte{}, text[first:second], nil, text[second:]), want)
		}
	}
}

// P6.3, P6.4: single bytes; behind each the code of what is held so far, twice.
func TestTextsByteByByte(t *testing.T) {
	for _, key := range someKeys() {
		text, p := drawnBytes(80, 70), New(key)
		for i := range text {
			want := wantedCode(key, text[:i])
			checkTag(t, "Sum between", p.Sum(), want)
			checkTag(t, "Sum again", p.Sum(), want)
			checkWrite(t, p, text[i:i+1])
		}
		checkTag(t, "Sum", p.Sum(), wantedCode(key, text))
	}
}

// P6.3, P6.4, P6.6: drawn lives of three polys in turns, each held against what was written into it.
func TestLivesOfPolys(t *testing.T) {
	source := rand.New(rand.NewSource(81))
	for range 200 {
		var keys [3]api.Key
		var polys [3]*Poly
		var texts [3][]byte
		for i := range polys {
			source.Read(keys[i][:])
			polys[i] = New(keys[i])
		}
		for range 40 {
			at := source.Intn(3)
			piece := drawnBytes(source.Int63(), source.Intn(40)*source.Intn(2))
			checkWrite(t, polys[at], piece)
			texts[at] = append(texts[at], piece...)
			asked := source.Intn(3)
			checkTag(t, "Sum", polys[asked].Sum(), wantedCode(keys[asked], texts[asked]))
		}
	}
}

// P6.5, R1, R3
func TestNilPoly(t *testing.T) {
	var p *Poly
	for _, b := range [][]byte{nil, {}, {1}, make([]byte, 16), make([]byte, 100)} {
		if n, err := p.Write(b); n != 0 || !errors.Is(err, api.ErrNil) {
			t.Errorf("Write of %d bytes = %d, %v", len(b), n, err)
		}
		checkTag(t, "Sum of a nil poly", p.Sum(), api.Tag{})
	}
}

// P6.7: as far apart as their s, which passes 2^128 and does not.
func TestCodesAreAsFarApartAsTheirHalves(t *testing.T) {
	halves := [][]byte{nil, {1}, repeated(0xff, 8), repeated(0xff, 16), drawnBytes(82, 16), drawnBytes(83, 16)}
	for _, r := range [][]byte{nil, {1}, repeated(0xff, 16), drawnBytes(84, 16)} {
		for _, n := range []int{0, 1, 15, 16, 17, 64, 100} {
			text := drawnBytes(85, n)
			for _, s := range halves {
				for _, other := range halves {
					x := littleNumber(tagBytes(Sum(keyOfHalves(r, s), text)))
					y := littleNumber(tagBytes(Sum(keyOfHalves(r, other), text)))
					far := sum(sum(x, littleNumber(other)), new(big.Int).Neg(sum(y, littleNumber(s))))
					if far.Mod(far, power(128)).Sign() != 0 {
						t.Fatalf("under %x of %d bytes: not as far apart as %x and %x", r, n, s, other)
					}
				}
			}
		}
	}
}

// P6.7: under r = 0, also where it has bits that are taken as 0.
func TestNoughtTellsNothing(t *testing.T) {
	for _, r := range [][]byte{nil, unhex("000000f0 030000f0 030000f0 030000f0")} {
		for _, s := range [][]byte{nil, {1}, repeated(0xff, 16), drawnBytes(86, 16)} {
			key := keyOfHalves(r, s)
			for n := range 70 {
				for _, text := range someTexts(n) {
					checkTag(t, "under r = 0", Sum(key, text), api.Tag(key[16:]))
				}
			}
		}
	}
}

// P6.7: under r = 1 whole chunks may stand in any order, under another r they may not.
func TestOneTellsNoOrder(t *testing.T) {
	source := rand.New(rand.NewSource(87))
	one, two := keyOfHalves([]byte{1}, drawnBytes(88, 16)), api.Key{2}
	for range 300 {
		chunks := make([][]byte, 2+source.Intn(6))
		for i := range chunks {
			chunks[i] = drawnBytes(source.Int63(), 16)
		}
		code, ordered := Sum(one, chunks...), Sum(two, chunks...)
		chunks[0], chunks[1] = chunks[1], chunks[0]
		if Sum(two, chunks...) == ordered {
			t.Fatal("under r = 2 the order of chunks does not matter")
		}
		source.Shuffle(len(chunks), func(i, j int) { chunks[i], chunks[j] = chunks[j], chunks[i] })
		checkTag(t, "under r = 1", Sum(one, chunks...), code)
	}
}

// R5: what is handed in stays as it is, with the room behind its end; so does the list of the parts.
func TestTextsStay(t *testing.T) {
	key := keyOf(firstKey)
	for n := range 70 {
		room := drawnBytes(89, n+40)
		before := bytes.Clone(room)
		p, parts := New(key), [][]byte{room[:n/2], room[n/2 : n], room[:0]}
		p.Write(room[:n])
		p.Sum()
		p.Write(room[:n/3])
		Check(key, Sum(key, parts...), parts...)
		if !bytes.Equal(room, before) || len(parts[0]) != n/2 || len(parts[1]) != n-n/2 || len(parts[2]) != 0 {
			t.Fatalf("a text of %d bytes has changed", n)
		}
	}
}

// R5: neither a text nor a key is kept, and an answer is a value.
func TestNothingIsKept(t *testing.T) {
	for n := range 70 {
		key, text := keyOf(firstKey), drawnBytes(90, n)
		want := wantedCode(key, text)
		p := New(key)
		clear(key[:])
		p.Write(text)
		clear(text)
		code := p.Sum()
		clear(code[:])
		checkTag(t, "Sum behind all that", p.Sum(), want)
	}
}
