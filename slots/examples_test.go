package slots

import (
	"testing"

	"tryst/api"
)

// The chapter's table of examples, row by row: a pager of 4 pages with 10 bytes of text each.

func TestExamplesOfPages(t *testing.T) {
	for _, c := range []struct {
		n, size, text, want int
		err                 api.Errno
	}{
		{7, 3, 10, 3, api.OK},
		{0, 3, 10, 0, api.OK},
		{1, 11, 10, 0, api.ErrLength},
		{-1, 3, 10, 0, api.ErrArg},
		{5, 0, 10, 0, api.ErrArg},
		{65537, 6, 10, 0, api.ErrSpace},
	} {
		if got, err := Pages(c.n, c.size, c.text); got != c.want || err != c.err {
			t.Errorf("Pages(%d, %d, %d) = %d, %d, want %d, %d", c.n, c.size, c.text, got, err, c.want, c.err)
		}
	}
}

func TestExamplesOfNew(t *testing.T) {
	p := over(t, newShelf(4, 10), 2)
	for _, c := range []struct {
		first, n int
		err      api.Errno
	}{{1, 7, api.OK}, {1, 10, api.ErrSpace}, {4, 0, api.OK}, {5, 0, api.ErrSpace}} {
		if s, err := New(p, c.first, c.n, 3); err != c.err || (s != nil) != (c.err == api.OK) {
			t.Errorf("New(p, %d, %d, 3) = %v, %d, want %d", c.first, c.n, s, err, c.err)
		}
	}
	if s, err := New(nil, -1, 7, 3); s != nil || err != api.ErrNil {
		t.Errorf("New(nil, -1, 7, 3) = %v, %d", s, err)
	}
}

// TestExamplesOfCalls sees which pages are loaded by what is held, and which are saved by what a Flush would write.
func TestExamplesOfCalls(t *testing.T) {
	store := newShelf(4, 10)
	p := over(t, store, 2)
	s := made(t, p, 1, 7, 3)
	checkGet(t, s, 6, 0, 0, 0)
	checkHeld(t, p, 3)
	p.Flush()
	checkOrder(t, store)
	checkSet(t, s, api.OK, 6, 1, 2, 3)
	p.Flush()
	checkOrder(t, store, 103)
	checkGet(t, s, 6, 1, 2, 3)
	checkGetRefused(t, s, 7, api.ErrArg)
	checkHeld(t, p, 3)
	p.Flush()
	checkOrder(t, store, 103)

	checkSet(t, s, api.OK, 0, 4, 5, 6)
	p.Flush()
	checkPair(t, s, api.OK, 6, 0, exchange)
	checkHeld(t, p, 3, 1)
	p.Flush()
	checkOrder(t, store, 103, 101, 101, 103)
	checkGet(t, s, 0, 1, 2, 3)
	checkGet(t, s, 6, 4, 5, 6)

	checkPair(t, s, api.OK, 0, 1, nothing)
	checkHeld(t, p, 3, 1)
	p.Flush()
	checkOrder(t, store, 103, 101, 101, 103, 101)
	checkPair(t, s, api.ErrArg, 2, 2, nothing)
	checkPair(t, s, api.ErrArg, 0, 7, nothing)
	checkSet(t, s, api.ErrLength, 0, 1, 2)
	checkLog(t, s, [3]int{api.AxGet, 6}, [3]int{api.AxSet, 6}, [3]int{api.AxGet, 6}, [3]int{api.AxSet, 0}, [3]int{api.AxPair, 6, 0},
		[3]int{api.AxGet, 0}, [3]int{api.AxGet, 6}, [3]int{api.AxPair, 0, 1})
}
