package mask

import (
	"bytes"
	"testing"

	"tryst/api"
)

// The chapter's table of examples, row by row.

func TestExamplesOfWords(t *testing.T) {
	for i, c := range []struct{ got, want uint64 }{
		{Bit(6), 0}, {Bit(7), yes}, {Zero(0), yes}, {Zero(9), 0},
		{Less(3, 1<<63), yes}, {Less(1<<63, 3), 0}, {Less(3, 3), 0},
		{Pick(yes, 5, 9), 5}, {Pick(0, 5, 9), 9}, {Pick(12, 5, 9), 5},
	} {
		if c.got != c.want {
			t.Errorf("example %d: %#x, want %#x", i, c.got, c.want)
		}
	}
	if a, b := Swap(yes, 5, 9); a != 9 || b != 5 {
		t.Errorf("Swap by all ones: %d, %d", a, b)
	}
	if a, b := Swap(0, 5, 9); a != 5 || b != 9 {
		t.Errorf("Swap by 0: %d, %d", a, b)
	}
	for _, c := range []struct {
		m    uint64
		want int8
	}{{yes, -1}, {0, 7}, {1 << 63, 7}, {240, -9}} {
		if got := Choose(c.m, int8(-1), int8(7)); got != c.want {
			t.Errorf("Choose by %#x: %d, want %d", c.m, got, c.want)
		}
	}
}

func TestExamplesOfLists(t *testing.T) {
	for i, c := range []struct{ got, want uint64 }{
		{Same([]byte{1, 2}, []byte{1, 2}), yes}, {Same([]byte{1, 2}, []byte{1}), 0}, {Same(nil, nil), yes},
		{Before([]byte{1, 2}, []byte{1, 3}), yes}, {Before([]byte{1}, []byte{1, 0}), yes},
		{Before([]byte{2}, []byte{1, 9}), 0}, {Before([]byte{1, 2}, []byte{1, 2}), 0},
	} {
		if c.got != c.want {
			t.Errorf("example %d: %#x, want %#x", i, c.got, c.want)
		}
	}
}

func TestExamplesOfMoves(t *testing.T) {
	to := []byte{1, 2}
	if e := Copy(0, to, []byte{7, 8}); e != api.OK || !bytes.Equal(to, []byte{1, 2}) {
		t.Errorf("Copy by 0: %v, %d", to, e)
	}
	if e := Copy(yes, to, []byte{7, 8}); e != api.OK || !bytes.Equal(to, []byte{7, 8}) {
		t.Errorf("Copy by all ones: %v, %d", to, e)
	}
	a, b := []byte{0x12}, []byte{0x34}
	if e := Trade(15, a, b); e != api.OK || a[0] != 0x14 || b[0] != 0x32 {
		t.Errorf("Trade by 15: %#x, %#x, %d", a, b, e)
	}
	if e := Copy(0, []byte{1, 2}, []byte{7}); e != api.ErrLength {
		t.Errorf("Copy of unlike lengths: %d", e)
	}
	if e := Trade(0, nil, []byte{1}); e != api.ErrLength {
		t.Errorf("Trade of unlike lengths: %d", e)
	}
}

func TestExamplesOfRows(t *testing.T) {
	for _, c := range []struct {
		rows [][]byte
		at   int
		want []byte
		err  api.Errno
	}{
		{[][]byte{{1, 2}, {3, 4}}, 1, []byte{3, 4}, api.OK},
		{[][]byte{{1, 2}, {3, 4}}, 2, nil, api.ErrArg},
		{[][]byte{{1, 2}, {3}}, 2, nil, api.ErrArg},
		{[][]byte{{1, 2}, {3}}, 0, nil, api.ErrLength},
		{nil, 0, nil, api.ErrArg},
	} {
		if got, e := Row(c.rows, c.at); e != c.err || !bytes.Equal(got, c.want) {
			t.Errorf("Row(%v, %d) = %v, %d, want %v, %d", c.rows, c.at, got, e, c.want, c.err)
		}
	}
}
