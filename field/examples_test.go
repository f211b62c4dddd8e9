package field

import "testing"

const yes = 1<<64 - 1

// row has the first byte, 30 of the middle one, and the last.
func row(first, middle, last byte) [32]byte {
	var b [32]byte
	for i := range b {
		b[i] = middle
	}
	b[0], b[31] = first, last
	return b
}

func checkBytes(t *testing.T, what string, got Elem, want [32]byte) {
	t.Helper()
	if b := got.Bytes(); b != want {
		t.Fatalf("%s = %x, want %x", what, b, want)
	}
}

func checkMask(t *testing.T, what string, got, want uint64) {
	t.Helper()
	if got != want {
		t.Fatalf("%s = %x, want %x", what, got, want)
	}
}

// The chapter's table of examples, row by row.

func TestExamplesOfForm(t *testing.T) {
	prime := Of(row(0xed, 0xff, 0x7f))
	checkBytes(t, "p", prime, [32]byte{})
	checkMask(t, "Zero of p", prime.Zero(), yes)
	checkBytes(t, "2^255 - 1", Of(row(0xff, 0xff, 0xff)), row(18, 0, 0))

	var greatest [32]byte
	for i := range 8 {
		greatest[i] = 0xff
	}
	checkBytes(t, "Small of 2^64 - 1", Small(1<<64-1), greatest)
	checkBytes(t, "0 - 1", Small(0).Sub(Small(1)), row(0xec, 0xff, 0x7f))
}

func TestExamplesOfReckoning(t *testing.T) {
	checkBytes(t, "5 times 7", Small(5).Mul(Small(7)), row(35, 0, 0))
	checkBytes(t, "7 times 5", Small(5).Times(7), row(35, 0, 0))
	checkBytes(t, "2 to the power 5", Small(2).Power([32]byte{5}), row(32, 0, 0))
	checkBytes(t, "the half", Small(2).Invert(), row(0xf7, 0xff, 0x3f))
	checkBytes(t, "Invert of 0", Small(0).Invert(), [32]byte{})
	checkBytes(t, "0 to the power 0", Small(0).Power([32]byte{}), row(1, 0, 0))
}

func TestExamplesOfChoice(t *testing.T) {
	x, y := Of(row(9, 77, 3)), Small(4)
	first, second := Swap(2, x, y)
	checkBytes(t, "the first of Swap by 2", first, row(9, 77, 3))
	checkBytes(t, "the second of Swap by 2", second, row(4, 0, 0))
	checkBytes(t, "Pick by 3", Pick(3, x, y), row(9, 77, 3))
}
