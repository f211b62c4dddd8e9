package octet

import (
	"bytes"
	"encoding/binary"
	"math/rand"
	"slices"
	"testing"

	"tryst/api"
)

// Types defined upon the four kinds are numbers of api.Plain, too.
type (
	small  uint8
	middle uint16
	large  uint32
	wide   uint64
)

// wordsOf are a width's numbers at their ends, with one bit, and with bytes that are all unlike.
func wordsOf(width int) []uint64 {
	rest := ^uint64(0) >> (64 - 8*width)
	words := []uint64{0, rest, rest >> 1, 0x0102030405060708 & rest, 0xf1e2d3c4b5a69788 & rest}
	for bit := range 8 * width {
		words = append(words, 1<<bit)
	}
	source := rand.New(rand.NewSource(2))
	for range 200 {
		words = append(words, source.Uint64()&rest)
	}
	return words
}

// littleOf and bigOf are what the library lays.
func littleOf(width int, v uint64) []byte {
	return binary.LittleEndian.AppendUint64(nil, v)[:width]
}

func bigOf(width int, v uint64) []byte {
	return binary.BigEndian.AppendUint64(nil, v)[8-width:]
}

// P2.1, P2.2, P2.7
func checkNumbers[T api.Plain](t *testing.T, width int) {
	t.Helper()
	for _, word := range wordsOf(width) {
		v, little, big := T(word), littleOf(width, word), bigOf(width, word)
		if got, e := Little[T](little); got != v || e != api.OK {
			t.Errorf("Little[%T](%v) = %d, %d, want %d", v, little, got, e, v)
		}
		if got, e := Big[T](big); got != v || e != api.OK {
			t.Errorf("Big[%T](%v) = %d, %d, want %d", v, big, got, e, v)
		}
		for _, ahead := range [][]byte{nil, {}, {9}, {1, 2, 3, 4, 5, 6, 7, 8, 9}} {
			if got := PutLittle(ahead, v); !bytes.Equal(got, slices.Concat(ahead, little)) {
				t.Errorf("PutLittle(%v, %T %d) = %v", ahead, v, v, got)
			}
			if got := PutBig(ahead, v); !bytes.Equal(got, slices.Concat(ahead, big)) {
				t.Errorf("PutBig(%v, %T %d) = %v", ahead, v, v, got)
			}
		}
	}
}

// P2.7: there and back, and the bytes of the one from the end on are those of the other.
func checkThereAndBack[T api.Plain](t *testing.T, width int) {
	t.Helper()
	for _, word := range wordsOf(width) {
		v := T(word)
		little, big := PutLittle(nil, v), PutBig(nil, v)
		if got, e := Little[T](little); got != v || e != api.OK {
			t.Errorf("Little of PutLittle(%T %d) = %d, %d", v, v, got, e)
		}
		if got, e := Big[T](big); got != v || e != api.OK {
			t.Errorf("Big of PutBig(%T %d) = %d, %d", v, v, got, e)
		}
		slices.Reverse(big)
		if !bytes.Equal(little, big) {
			t.Errorf("%T %d: %v is not %v from the end on", v, v, little, big)
		}
	}
}

// P2.1, R2: fewer bytes, and more.
func checkLengths[T api.Plain](t *testing.T, width int) {
	t.Helper()
	for length := range 20 {
		want := api.OK
		switch {
		case length < width:
			want = api.ErrShort
		case length > width:
			want = api.ErrRest
		}
		b := bytes.Repeat([]byte{255}, length)
		number := T(0)
		if want == api.OK {
			number = ^T(0)
		}
		if got, e := Little[T](b); got != number || e != want {
			t.Errorf("Little[%T] of %d bytes = %d, %d, want %d, %d", number, length, got, e, number, want)
		}
		if got, e := Big[T](b); got != number || e != want {
			t.Errorf("Big[%T] of %d bytes = %d, %d, want %d, %d", number, length, got, e, number, want)
		}
	}
}

func checkType[T api.Plain](t *testing.T, width int) {
	t.Helper()
	checkNumbers[T](t, width)
	checkThereAndBack[T](t, width)
	checkLengths[T](t, width)
}

// P2.1, P2.2, P2.7, for each width and for types defined upon them.
func TestNumbers(t *testing.T) {
	checkType[uint8](t, 1)
	checkType[uint16](t, 2)
	checkType[uint32](t, 4)
	checkType[uint64](t, 8)
	checkType[small](t, 1)
	checkType[middle](t, 2)
	checkType[large](t, 4)
	checkType[wide](t, 8)
}

// R4: nil and empty are the same.
func TestNoBytesAtAll(t *testing.T) {
	for _, b := range [][]byte{nil, {}} {
		if v, e := Little[uint8](b); v != 0 || e != api.ErrShort {
			t.Errorf("Little of nothing = %d, %d", v, e)
		}
		if v, e := Big[uint8](b); v != 0 || e != api.ErrShort {
			t.Errorf("Big of nothing = %d, %d", v, e)
		}
	}
}

// P2.2, R5: what is put is new memory, and neither the bytes handed in nor the room behind them change.
func TestPutIsNewMemory(t *testing.T) {
	whole := bytes.Repeat([]byte{7}, 20)
	for _, put := range []func([]byte) []byte{
		func(b []byte) []byte { return PutLittle(b, uint8(1)) },
		func(b []byte) []byte { return PutLittle(b, ^uint64(0)) },
		func(b []byte) []byte { return PutBig(b, uint16(1)) },
		func(b []byte) []byte { return PutBig(b, ^uint64(0)) },
	} {
		for length := range 10 {
			first, second := put(whole[:length]), put(whole[:length])
			kept := slices.Clone(second)
			for i := range first {
				first[i] = 99
			}
			_ = append(first, 99)
			if !bytes.Equal(second, kept) {
				t.Errorf("two answers share: %v", second)
			}
			if !bytes.Equal(whole, bytes.Repeat([]byte{7}, 20)) {
				t.Fatalf("an argument of %d bytes has changed: %v", length, whole)
			}
		}
	}
}

// R5: asking for a number leaves the bytes alone.
func TestNumbersLeaveBytesAlone(t *testing.T) {
	b := []byte{1, 2, 3, 4}
	Little[uint32](b)
	Big[uint32](b)
	Little[uint64](b)
	Big[uint8](b)
	if !bytes.Equal(b, []byte{1, 2, 3, 4}) {
		t.Errorf("bytes have changed: %v", b)
	}
}
