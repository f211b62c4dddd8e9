package mask

import (
	"testing"

	"tryst/api"
)

const yes = 1<<64 - 1

// edgeWords are words at their ends, masks, and words that are no masks.
func edgeWords() []uint64 {
	return []uint64{
		0, 1, 2, 3, 5, 6, 7, 9, 12, 15, 16, 127, 128, 129, 240, 255, 256,
		1<<15 - 1, 1 << 15, 1<<16 - 1, 1 << 16, 1<<31 - 1, 1 << 31, 1<<32 - 1, 1 << 32, 1<<32 + 1,
		1<<62 - 1, 1 << 62, 1<<63 - 1, 1 << 63, 1<<63 + 1, yes - 1, yes,
		0xaaaaaaaaaaaaaaaa, 0x5555555555555555, 0x0123456789abcdef, 0xfedcba9876543210,
	}
}

// someWords are the edges, each single bit, and words without a pattern, the same in every run.
func someWords() []uint64 {
	words := edgeWords()
	for k := range 64 {
		words = append(words, 1<<k)
	}
	x := uint64(0x9e3779b97f4a7c15)
	for range 40 {
		x ^= x << 13
		x ^= x >> 7
		x ^= x << 17
		words = append(words, x)
	}
	return words
}

func maskOf(holds bool) uint64 {
	if holds {
		return yes
	}
	return 0
}

// bitByBit is x where m has ones, else y, as the chapter says it, of the lowest bits of a word.
func bitByBit(m, x, y uint64, width int) uint64 {
	out := uint64(0)
	for k := range width {
		from := y
		if m>>k&1 == 1 {
			from = x
		}
		out |= (from >> k & 1) << k
	}
	return out
}

// P1.1
func TestBitTellsTheLowestBit(t *testing.T) {
	for _, b := range someWords() {
		if got, want := Bit(b), maskOf(b%2 == 1); got != want {
			t.Errorf("Bit(%#x) = %#x, want %#x", b, got, want)
		}
	}
}

// P1.1
func TestZeroTellsZero(t *testing.T) {
	for _, x := range someWords() {
		if got, want := Zero(x), maskOf(x == 0); got != want {
			t.Errorf("Zero(%#x) = %#x, want %#x", x, got, want)
		}
	}
}

// P1.1
func TestEqualAndLessCompareWords(t *testing.T) {
	for _, x := range someWords() {
		for _, y := range someWords() {
			if got, want := Equal(x, y), maskOf(x == y); got != want {
				t.Errorf("Equal(%#x, %#x) = %#x, want %#x", x, y, got, want)
			}
			if got, want := Less(x, y), maskOf(x < y); got != want {
				t.Errorf("Less(%#x, %#x) = %#x, want %#x", x, y, got, want)
			}
		}
	}
}

// P1.2
func TestPickAndSwapGoBitByBit(t *testing.T) {
	for _, m := range someWords() {
		for _, x := range edgeWords() {
			for _, y := range edgeWords() {
				first, second := bitByBit(m, y, x, 64), bitByBit(m, x, y, 64)
				if got := Pick(m, x, y); got != second {
					t.Fatalf("Pick(%#x, %#x, %#x) = %#x, want %#x", m, x, y, got, second)
				}
				if a, b := Swap(m, x, y); a != first || b != second {
					t.Fatalf("Swap(%#x, %#x, %#x) = %#x, %#x, want %#x, %#x", m, x, y, a, b, first, second)
				}
			}
		}
	}
}

// checkChoose holds Choose of one type to the chapter's words, and to P1.8.
func checkChoose[T api.Word](t *testing.T, name string, width int) {
	t.Helper()
	for _, m := range someWords() {
		for _, v := range edgeWords() {
			for _, w := range edgeWords() {
				x, y := T(v), T(w)
				if got, want := Choose(m, x, y), T(bitByBit(m, v, w, width)); got != want {
					t.Fatalf("Choose[%s](%#x, %d, %d) = %d, want %d", name, m, x, y, got, want)
				}
				if Choose(yes, x, y) != x || Choose(0, x, y) != y || Choose(m, x, x) != x {
					t.Fatalf("Choose[%s] of %d, %d by masks, or of the same by %#x", name, x, y, m)
				}
			}
		}
	}
}

type ownByte uint8

type ownInt int16

// P1.3, P1.8
func TestChooseOfEachType(t *testing.T) {
	checkChoose[uint8](t, "uint8", 8)
	checkChoose[uint16](t, "uint16", 16)
	checkChoose[uint32](t, "uint32", 32)
	checkChoose[uint64](t, "uint64", 64)
	checkChoose[int8](t, "int8", 8)
	checkChoose[int16](t, "int16", 16)
	checkChoose[int32](t, "int32", 32)
	checkChoose[int64](t, "int64", 64)
	checkChoose[ownByte](t, "ownByte", 8)
	checkChoose[ownInt](t, "ownInt", 16)
}

// P1.3: signed numbers written out, so that nothing hangs on how the test itself converts.
func TestChooseOfSignedNumbers(t *testing.T) {
	if got := Choose(1<<7, int8(-128), int8(127)); got != -1 {
		t.Errorf("int8: %d", got)
	}
	if got := Choose(1<<15, int16(-32768), int16(5)); got != -32763 {
		t.Errorf("int16: %d", got)
	}
	if got := Choose(0xffffffff00000000, int32(-7), int32(9)); got != 9 {
		t.Errorf("int32 by ones above its bits: %d", got)
	}
	if got := Choose(1<<63, int64(-1<<63), int64(1)); got != -1<<63+1 {
		t.Errorf("int64: %d", got)
	}
}

// P1.8
func TestChoicesByMasksAndTwice(t *testing.T) {
	for _, x := range someWords() {
		for _, y := range someWords() {
			if Pick(yes, x, y) != x || Pick(0, x, y) != y {
				t.Errorf("Pick of %#x, %#x by masks", x, y)
			}
			if a, b := Swap(yes, x, y); a != y || b != x {
				t.Errorf("Swap of %#x, %#x by all ones", x, y)
			}
			if a, b := Swap(0, x, y); a != x || b != y {
				t.Errorf("Swap of %#x, %#x by 0", x, y)
			}
			for _, m := range edgeWords() {
				a, b := Swap(m, x, y)
				if a, b = Swap(m, a, b); a != x || b != y {
					t.Errorf("Swap of %#x, %#x by %#x, twice: %#x, %#x", x, y, m, a, b)
				}
				if got := Pick(m, x, x); got != x {
					t.Errorf("Pick(%#x, %#x, the same) = %#x", m, x, got)
				}
			}
		}
	}
}

// onlyOne says whether all are masks, and just one of them is all ones.
func onlyOne(masks ...uint64) bool {
	ones := 0
	for _, m := range masks {
		switch m {
		case 0:
		case yes:
			ones++
		default:
			return false
		}
	}
	return ones == 1
}

// P1.9
func TestOrderOfWords(t *testing.T) {
	for _, x := range someWords() {
		for _, y := range someWords() {
			if !onlyOne(Less(x, y), Less(y, x), Equal(x, y)) {
				t.Errorf("not just one order of %#x, %#x", x, y)
			}
			if Equal(x, y) != Zero(x^y) {
				t.Errorf("Equal(%#x, %#x) is not Zero of the unlike bits", x, y)
			}
		}
	}
}
