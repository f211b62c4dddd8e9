package mask

import (
	"bytes"
	"math"
	"slices"
	"testing"

	"tryst/api"
)

// shortLists are all lists of up to three bytes of which each is at an end or in the middle.
func shortLists() [][]byte {
	lists := [][]byte{nil}
	for from := 0; len(lists) < 1+4+16+64; from++ {
		for _, b := range []byte{0, 1, 128, 255} {
			lists = append(lists, append(slices.Clone(lists[from]), b))
		}
	}
	return lists
}

// longLists have many places, and are unlike at one of them, or in length.
func longLists() [][]byte {
	base := bytes.Repeat([]byte{7}, 300)
	lists := [][]byte{base, base[:299], append(slices.Clone(base), 0)}
	for _, at := range []int{0, 1, 150, 298, 299} {
		for _, b := range []byte{0, 6, 8, 255} {
			list := slices.Clone(base)
			list[at] = b
			lists = append(lists, list)
		}
	}
	return lists
}

// standsBefore is the chapter's word, as it is written there.
func standsBefore(a, b []byte) bool {
	for i := range a {
		if i >= len(b) {
			return false
		}
		if a[i] != b[i] {
			return a[i] < b[i]
		}
	}
	return len(a) < len(b)
}

// P1.4, P1.9
func TestSameAndBefore(t *testing.T) {
	for _, lists := range [][][]byte{shortLists(), longLists()} {
		for _, a := range lists {
			for _, b := range lists {
				if got, want := Same(a, b), maskOf(bytes.Equal(a, b)); got != want {
					t.Errorf("Same(%v, %v) = %#x, want %#x", a, b, got, want)
				}
				if got, want := Before(a, b), maskOf(standsBefore(a, b)); got != want {
					t.Errorf("Before(%v, %v) = %#x, want %#x", a, b, got, want)
				}
				if !onlyOne(Before(a, b), Before(b, a), Same(a, b)) {
					t.Errorf("not just one order of %v, %v", a, b)
				}
			}
		}
	}
}

// P1.4: every two bytes, so that no difference of bits is overlooked.
func TestSameAndBeforeOfAllBytes(t *testing.T) {
	for x := range 256 {
		for y := range 256 {
			a, b := []byte{byte(x)}, []byte{byte(y)}
			if Same(a, b) != maskOf(x == y) || Before(a, b) != maskOf(x < y) {
				t.Errorf("Same or Before of %d, %d", x, y)
			}
		}
	}
}

// P1.4, R4
func TestNilIsEmpty(t *testing.T) {
	none, empty, one := []byte(nil), []byte{}, []byte{0}
	for _, a := range [][]byte{none, empty} {
		for _, b := range [][]byte{none, empty} {
			if Same(a, b) != yes || Before(a, b) != 0 {
				t.Error("Same or Before of empty lists")
			}
			if Copy(yes, a, b) != api.OK || Trade(yes, a, b) != api.OK {
				t.Error("Copy or Trade of empty lists")
			}
		}
		if Same(a, one) != 0 || Same(one, a) != 0 || Before(a, one) != yes || Before(one, a) != 0 {
			t.Error("an empty list and a longer one")
		}
	}
}

// P1.9
func TestBeforeGoesOn(t *testing.T) {
	lists := shortLists()
	for _, a := range lists {
		for _, b := range lists {
			if Before(a, b) != yes {
				continue
			}
			for _, c := range lists {
				if Before(b, c) == yes && Before(a, c) != yes {
					t.Errorf("%v, %v, %v: the first one is not before the last one", a, b, c)
				}
			}
		}
	}
}

// withRoom has room behind its end, in which 99 stands.
func withRoom(list []byte) []byte {
	room := append(slices.Clone(list), 99, 99, 99)
	return room[:len(list)]
}

func roomIsKept(list []byte) bool {
	return bytes.Equal(list[len(list):len(list)+3], []byte{99, 99, 99})
}

// everyByte has each byte once; turned has them in another order.
func everyByte() (list, turned []byte) {
	for i := range 256 {
		list = append(list, byte(i))
		turned = append(turned, byte(i*37+11))
	}
	return list, turned
}

// P1.5, R5
func TestCopyGoesBitByBit(t *testing.T) {
	old, given := everyByte()
	for _, m := range someWords() {
		to, from := withRoom(old), withRoom(given)
		if e := Copy(m, to, from); e != api.OK {
			t.Fatalf("Copy by %#x: %d", m, e)
		}
		for i := range to {
			if want := byte(bitByBit(m, uint64(given[i]), uint64(old[i]), 8)); to[i] != want {
				t.Fatalf("Copy by %#x at %d: %#x, want %#x", m, i, to[i], want)
			}
		}
		if !bytes.Equal(from, given) || !roomIsKept(to) || !roomIsKept(from) {
			t.Fatalf("Copy by %#x wrote elsewhere", m)
		}
	}
}

// P1.6, P1.8, R5
func TestTradeGoesBitByBitAndBack(t *testing.T) {
	first, second := everyByte()
	for _, m := range someWords() {
		a, b := withRoom(first), withRoom(second)
		if e := Trade(m, a, b); e != api.OK {
			t.Fatalf("Trade by %#x: %d", m, e)
		}
		for i := range a {
			x, y := uint64(first[i]), uint64(second[i])
			if a[i] != byte(bitByBit(m, y, x, 8)) || b[i] != byte(bitByBit(m, x, y, 8)) {
				t.Fatalf("Trade by %#x at %d: %#x, %#x", m, i, a[i], b[i])
			}
		}
		if Trade(m, a, b) != api.OK || !bytes.Equal(a, first) || !bytes.Equal(b, second) {
			t.Fatalf("Trade by %#x, twice, does not give back", m)
		}
		if !roomIsKept(a) || !roomIsKept(b) {
			t.Fatalf("Trade by %#x wrote behind an end", m)
		}
	}
}

// P1.5, P1.6
func TestUnlikeLengthsWriteNothing(t *testing.T) {
	for _, c := range [][2][]byte{
		{{1, 2}, {7}}, {{1}, {7, 8}}, {nil, {7}}, {{}, {7}}, {{1}, nil}, {{1}, {}}, {{1, 2, 3}, {7, 8}},
	} {
		for _, m := range []uint64{0, 1, 15, yes} {
			a, b := withRoom(c[0]), withRoom(c[1])
			if e := Copy(m, a, b); e != api.ErrLength {
				t.Errorf("Copy(%#x, %v, %v) = %d", m, c[0], c[1], e)
			}
			if e := Trade(m, a, b); e != api.ErrLength {
				t.Errorf("Trade(%#x, %v, %v) = %d", m, c[0], c[1], e)
			}
			if !bytes.Equal(a, c[0]) || !bytes.Equal(b, c[1]) || !roomIsKept(a) || !roomIsKept(b) {
				t.Errorf("%v, %v of unlike lengths became %v, %v", c[0], c[1], a, b)
			}
		}
	}
}

// P1.5, P1.6: what comes out is not promised, only that the calls end.
func TestSharedMemoryEnds(t *testing.T) {
	list := []byte{1, 2, 3, 4, 5}
	for _, m := range []uint64{0, 15, yes} {
		Copy(m, list[1:], list[:4])
		Copy(m, list[:4], list[1:])
		Copy(m, list, list)
		Trade(m, list[1:], list[:4])
		Trade(m, list, list)
	}
}

// P1.7
func TestRowIsTheListAtItsPlace(t *testing.T) {
	for _, length := range []int{0, 1, 2, 33} {
		for _, count := range []int{1, 2, 3, 70} {
			rows := make([][]byte, count)
			for i := range rows {
				rows[i] = bytes.Repeat([]byte{byte(200 + i)}, length)
			}
			for at := range rows {
				if got, e := Row(rows, at); e != api.OK || !bytes.Equal(got, rows[at]) {
					t.Errorf("Row of %d lists of %d bytes at %d: %v, %d", count, length, at, got, e)
				}
			}
		}
	}
}

// P1.7, R4
func TestRowOfEmptyLists(t *testing.T) {
	for at := range 2 {
		if got, e := Row([][]byte{nil, {}}, at); e != api.OK || len(got) != 0 {
			t.Errorf("Row of empty lists at %d: %v, %d", at, got, e)
		}
	}
}

// P1.7, R1, R2
func TestRowErrors(t *testing.T) {
	good := [][]byte{{1, 2}, {3, 4}}
	for _, at := range []int{-1, -2, 2, 3, 256, math.MinInt, math.MaxInt} {
		for _, rows := range [][][]byte{good, {{1, 2}, {3}}, nil, {}} {
			if got, e := Row(rows, at); e != api.ErrArg || got != nil {
				t.Errorf("Row(%v, %d) = %v, %d", rows, at, got, e)
			}
		}
	}
	for _, rows := range [][][]byte{
		{{1}, {1, 2}, {1, 2}}, {{1, 2}, {1}, {1, 2}}, {{1, 2}, {1, 2}, {1}}, {{1, 2}, nil, {1, 2}}, {nil, {1}, nil},
		{{1, 2}, {1, 2}, {1, 2, 3}},
	} {
		for at := range rows {
			if got, e := Row(rows, at); e != api.ErrLength || got != nil {
				t.Errorf("Row(%v, %d) = %v, %d", rows, at, got, e)
			}
		}
	}
}

// P1.7, R5
func TestRowIsNewMemory(t *testing.T) {
	rows := [][]byte{withRoom([]byte{1, 2}), withRoom([]byte{3, 4})}
	first, _ := Row(rows, 1)
	second, _ := Row(rows, 1)
	first[0], first[1] = 50, 60
	first = append(first, 70)
	if !bytes.Equal(rows[0], []byte{1, 2}) || !bytes.Equal(rows[1], []byte{3, 4}) || !bytes.Equal(second, []byte{3, 4}) {
		t.Errorf("what Row answered is shared: %v, %v", rows, second)
	}
	if !roomIsKept(rows[0]) || !roomIsKept(rows[1]) {
		t.Error("the room behind a list was written into")
	}
}

// R5, R6: asking changes nothing, and asking again tells the same.
func TestAskingChangesNothing(t *testing.T) {
	a, b := withRoom([]byte{1, 200, 3}), withRoom([]byte{1, 2, 30})
	for range 3 {
		if Same(a, b) != 0 || Before(a, b) != 0 || Before(b, a) != yes {
			t.Error("another answer")
		}
	}
	if !bytes.Equal(a, []byte{1, 200, 3}) || !bytes.Equal(b, []byte{1, 2, 30}) || !roomIsKept(a) || !roomIsKept(b) {
		t.Error("Same or Before wrote")
	}
}
