package slots

import (
	"math"
	"testing"

	"tryst/api"
)

// P15.1, R2: how many pages slots take; of wrong numbers the error that is named first, with 0.
func TestPages(t *testing.T) {
	for _, c := range []struct {
		n, size, text, want int
		err                 api.Errno
	}{
		{0, 1, 1, 0, api.OK}, {1, 1, 1, 1, api.OK}, {2, 1, 1, 2, api.OK},
		{1, 10, 10, 1, api.OK}, {2, 10, 10, 2, api.OK}, {0, 10, 10, 0, api.OK},
		{2, 5, 10, 1, api.OK}, {3, 5, 10, 2, api.OK}, {1, 6, 10, 1, api.OK}, {2, 6, 10, 2, api.OK},
		{3, 3, 10, 1, api.OK}, {4, 3, 10, 2, api.OK}, {6, 3, 10, 2, api.OK}, {9, 3, 10, 3, api.OK}, {10, 1, 10, 1, api.OK}, {11, 1, 10, 2, api.OK},
		{65536, 10, 10, 65536, api.OK}, {65537, 10, 10, 0, api.ErrSpace},
		{3 * 65536, 3, 10, 65536, api.OK}, {3*65536 + 1, 3, 10, 0, api.ErrSpace}, {3*65536 - 2, 3, 10, 65536, api.OK}, {3*65536 - 3, 3, 10, 65535, api.OK},
		{1, 11, 10, 0, api.ErrLength}, {0, 11, 10, 0, api.ErrLength}, {0, 1, 0, 0, api.ErrLength}, {0, 1, -1, 0, api.ErrLength}, {5, 1, math.MinInt, 0, api.ErrLength},
		{65537, 11, 10, 0, api.ErrLength}, {math.MaxInt, math.MaxInt, 10, 0, api.ErrLength},
		{-1, 1, 1, 0, api.ErrArg}, {math.MinInt, 1, 1, 0, api.ErrArg}, {1, 0, 1, 0, api.ErrArg}, {1, -1, 1, 0, api.ErrArg}, {1, math.MinInt, 1, 0, api.ErrArg},
		{-1, 11, 10, 0, api.ErrArg}, {0, 0, -1, 0, api.ErrArg}, {math.MaxInt, 0, 10, 0, api.ErrArg}, {-1, 0, 0, 0, api.ErrArg},
		{math.MaxInt, 1, 1, 0, api.ErrSpace}, {math.MaxInt, 1, 2, 0, api.ErrSpace}, {math.MaxInt, 5, 4096, 0, api.ErrSpace}, {math.MaxInt - 1, 2, 5, 0, api.ErrSpace},
		{math.MaxInt, 1, math.MaxInt, 1, api.OK}, {math.MaxInt, 1, math.MaxInt - 1, 2, api.OK}, {1, math.MaxInt, math.MaxInt, 1, api.OK},
		{2, math.MaxInt/2 + 1, math.MaxInt, 2, api.OK}, {65537, math.MaxInt, math.MaxInt, 0, api.ErrSpace},
	} {
		for range 2 {
			if got, err := Pages(c.n, c.size, c.text); got != c.want || err != c.err {
				t.Errorf("Pages(%d, %d, %d) = %d, %d, want %d, %d", c.n, c.size, c.text, got, err, c.want, c.err)
			}
		}
	}
}

// P15.1: the pages counted slot by slot.
func TestPagesCounted(t *testing.T) {
	for text := 1; text <= 12; text++ {
		for size := 1; size <= text; size++ {
			pages, room := 0, 0
			for n := 0; n <= 40; n++ {
				if got, err := Pages(n, size, text); got != pages || err != api.OK {
					t.Fatalf("Pages(%d, %d, %d) = %d, %d, want %d", n, size, text, got, err, pages)
				}
				if room < size {
					pages, room = pages+1, text
				}
				room -= size
			}
		}
	}
}

// P15.2, R2, R3: which slots may be, and the error that is named first; no page is touched.
func TestNew(t *testing.T) {
	store := newShelf(4, 10)
	p := over(t, store, 2)
	for _, c := range []struct {
		first, n, size int
		err            api.Errno
	}{
		{0, 0, 1, api.OK}, {0, 1, 1, api.OK}, {0, 40, 1, api.OK}, {0, 41, 1, api.ErrSpace}, {3, 10, 1, api.OK}, {3, 11, 1, api.ErrSpace},
		{0, 4, 10, api.OK}, {0, 5, 10, api.ErrSpace}, {1, 3, 10, api.OK}, {1, 4, 10, api.ErrSpace},
		{0, 12, 3, api.OK}, {0, 13, 3, api.ErrSpace}, {2, 6, 3, api.OK}, {2, 7, 3, api.ErrSpace},
		{3, 1, 3, api.OK}, {4, 1, 3, api.ErrSpace}, {4, 0, 3, api.OK}, {5, 0, 3, api.ErrSpace}, {5, 1, 3, api.ErrSpace},
		{-1, 1, 3, api.ErrArg}, {0, -1, 3, api.ErrArg}, {0, 1, 0, api.ErrArg}, {0, 1, -1, api.ErrArg},
		{-1, 0, 11, api.ErrArg}, {0, -1, 11, api.ErrArg}, {5, -1, 3, api.ErrArg}, {5, 1, 0, api.ErrArg}, {-1, 41, 1, api.ErrArg},
		{0, 1, 11, api.ErrLength}, {0, 0, 11, api.ErrLength}, {5, 0, 11, api.ErrLength}, {0, 41, 11, api.ErrLength},
		{math.MaxInt, 0, 1, api.ErrSpace}, {math.MaxInt, 1, 1, api.ErrSpace}, {0, math.MaxInt, 1, api.ErrSpace}, {1, math.MaxInt, 10, api.ErrSpace},
		{math.MaxInt, math.MaxInt, 1, api.ErrSpace}, {math.MaxInt, math.MaxInt, 10, api.ErrSpace}, {math.MaxInt - 3, 4, 10, api.ErrSpace},
		{0, 1, math.MaxInt, api.ErrLength}, {math.MaxInt, math.MaxInt, math.MaxInt, api.ErrLength},
		{math.MinInt, 0, 1, api.ErrArg}, {0, math.MinInt, 1, api.ErrArg}, {0, 0, math.MinInt, api.ErrArg},
	} {
		s, err := New(p, c.first, c.n, c.size)
		if err != c.err || (s != nil) != (c.err == api.OK) {
			t.Fatalf("New(p, %d, %d, %d) = %v, %d, want %d", c.first, c.n, c.size, s, err, c.err)
		}
		if s != nil && (s.Len() != c.n || s.Size() != c.size || len(s.Log()) != 0) {
			t.Fatalf("New(p, %d, %d, %d): Len %d, Size %d, Log %v", c.first, c.n, c.size, s.Len(), s.Size(), s.Log())
		}
		if s, err := New(nil, c.first, c.n, c.size); s != nil || err != api.ErrNil {
			t.Fatalf("New(nil, %d, %d, %d) = %v, %d", c.first, c.n, c.size, s, err)
		}
	}
	checkHeld(t, p)
	checkOrder(t, store)
}

// P15.2: a pager without a page has room for no slots.
func TestNewWithoutPages(t *testing.T) {
	p := over(t, newShelf(0, 10), 2)
	s := made(t, p, 0, 0, 3)
	checkGetRefused(t, s, 0, api.ErrArg)
	for _, c := range [][2]int{{0, 1}, {1, 0}} {
		if s, err := New(p, c[0], c[1], 3); s != nil || err != api.ErrSpace {
			t.Errorf("New(p, %d, %d, 3) = %v, %d", c[0], c[1], s, err)
		}
	}
}

// P15.2: the greatest pager there is: its last slot is there.
func TestNewOfAllPages(t *testing.T) {
	p := over(t, newShelf(api.MaxPages, 2), 2)
	s := made(t, p, 0, 2*api.MaxPages, 1)
	checkSet(t, s, api.OK, 2*api.MaxPages-1, 7)
	checkText(t, p, api.MaxPages-1, 0, 7)
	if s, err := New(p, 0, 2*api.MaxPages+1, 1); s != nil || err != api.ErrSpace {
		t.Errorf("one slot more: %v, %d", s, err)
	}
}

// P15.2: what stands in slots is what stands on the pages.
func TestNewFindsWhatStandsThere(t *testing.T) {
	p := over(t, newShelf(4, 10), 2)
	p.Save(1, []byte{1, 2, 3, 4, 5, 6, 7, 8, 9, 10})
	p.Save(2, []byte{11, 12, 13, 14, 15, 16, 17, 18, 19, 20})
	s := made(t, p, 1, 6, 4)
	checkGet(t, s, 0, 1, 2, 3, 4)
	checkGet(t, s, 1, 5, 6, 7, 8)
	checkGet(t, s, 2, 11, 12, 13, 14)
	checkGet(t, s, 3, 15, 16, 17, 18)
	checkGet(t, s, 4, 0, 0, 0, 0)
}

// P15.3: the first and the last slot of a page and of all; none beside them.
func TestGet(t *testing.T) {
	store := newShelf(4, 10)
	p := over(t, store, 2)
	p.Save(2, []byte{1, 2, 3, 4, 5, 6, 7, 8, 9, 10})
	s := made(t, p, 1, 7, 3)
	checkGet(t, s, 3, 1, 2, 3)
	checkGet(t, s, 4, 4, 5, 6)
	checkGet(t, s, 5, 7, 8, 9)
	checkHeld(t, p, 2)
	checkGet(t, s, 0, 0, 0, 0)
	checkHeld(t, p, 2, 1)
	checkGet(t, s, 2, 0, 0, 0)
	checkHeld(t, p, 2, 1)
	checkGet(t, s, 6, 0, 0, 0)
	checkHeld(t, p, 1, 3)
	checkOrder(t, store, 102)
	for _, i := range []int{-1, 7, 8, 9, math.MinInt, math.MaxInt} {
		checkGetRefused(t, s, i, api.ErrArg)
	}
	checkHeld(t, p, 1, 3)
	checkOrder(t, store, 102)
	checkLog(t, s, [3]int{api.AxGet, 3}, [3]int{api.AxGet, 4}, [3]int{api.AxGet, 5}, [3]int{api.AxGet, 0}, [3]int{api.AxGet, 2}, [3]int{api.AxGet, 6})
}

// P15.3: Get saves nothing: a page that nobody changed goes unwritten.
func TestGetSavesNothing(t *testing.T) {
	store := newShelf(4, 10)
	p := over(t, store, 2)
	s := made(t, p, 0, 4, 10)
	for i := range 4 {
		checkGet(t, s, i, make([]byte, 10)...)
	}
	p.Flush()
	checkOrder(t, store)
	if p.Writes() != 0 {
		t.Fatalf("%d pages were written", p.Writes())
	}
}

// P15.4: a slot is laid just where it lies; what stands beside it, and on the rest of the page, stays.
func TestSet(t *testing.T) {
	store := newShelf(3, 5)
	p := over(t, store, 2)
	p.Save(1, []byte{1, 2, 3, 4, 5})
	s := made(t, p, 1, 4, 2)
	checkSet(t, s, api.OK, 0, 21, 22)
	checkText(t, p, 1, 21, 22, 3, 4, 5)
	checkSet(t, s, api.OK, 1, 23, 24)
	checkText(t, p, 1, 21, 22, 23, 24, 5)
	checkHeld(t, p, 1)
	checkSet(t, s, api.OK, 3, 25, 26)
	checkHeld(t, p, 1, 2)
	checkText(t, p, 2, 0, 0, 25, 26, 0)
	checkText(t, p, 1, 21, 22, 23, 24, 5)
	checkText(t, p, 0, 0, 0, 0, 0, 0)
	checkText(t, p, 2, 0, 0, 25, 26, 0)
	checkOrder(t, store, 102, 101, 2)
	checkLog(t, s, [3]int{api.AxSet, 0}, [3]int{api.AxSet, 1}, [3]int{api.AxSet, 3})
}

// P15.4: slots that fill a page to its end.
func TestSetToTheEnd(t *testing.T) {
	p := over(t, newShelf(2, 6), 2)
	s := made(t, p, 0, 4, 3)
	for i := range 4 {
		checkSet(t, s, api.OK, i, byte(10*i), byte(10*i+1), byte(10*i+2))
	}
	checkText(t, p, 0, 0, 1, 2, 10, 11, 12)
	checkText(t, p, 1, 20, 21, 22, 30, 31, 32)
}

// P15.4, R2: wrong slots and wrong lengths: no access, no page.
func TestSetRefused(t *testing.T) {
	store := newShelf(4, 10)
	p := over(t, store, 2)
	s := made(t, p, 1, 7, 3)
	for _, i := range []int{-1, 7, 8, math.MinInt, math.MaxInt} {
		checkSet(t, s, api.ErrArg, i, 1, 2, 3)
		checkSet(t, s, api.ErrArg, i, 1, 2)
		checkSet(t, s, api.ErrArg, i)
	}
	for _, i := range []int{0, 6} {
		checkSet(t, s, api.ErrLength, i, 1, 2)
		checkSet(t, s, api.ErrLength, i, 1, 2, 3, 4)
		checkSet(t, s, api.ErrLength, i, 1, 2, 3, 4, 5, 6)
		checkSet(t, s, api.ErrLength, i)
		if err := s.Set(i, nil); err != api.ErrLength {
			t.Fatalf("Set(%d, nil) = %d", i, err)
		}
		if err := s.Set(i, []byte{}); err != api.ErrLength {
			t.Fatalf("Set(%d, no bytes) = %d", i, err)
		}
	}
	checkHeld(t, p)
	checkLog(t, s)
	p.Flush()
	checkOrder(t, store)
}

// P15.4: what is laid is saved, also if it is what stood there.
func TestSetSavesTheSame(t *testing.T) {
	store := newShelf(2, 4)
	p := over(t, store, 2)
	s := made(t, p, 0, 4, 2)
	checkSet(t, s, api.OK, 3, 0, 0)
	p.Flush()
	checkOrder(t, store, 101)
	checkSet(t, s, api.OK, 3, 0, 0)
	p.Flush()
	checkOrder(t, store, 101, 101)
}

// P15.7, R3: nil slots.
func TestNilSlots(t *testing.T) {
	var s *Slots
	for _, i := range []int{-1, 0, 1} {
		checkGetRefused(t, s, i, api.ErrNil)
		checkSet(t, s, api.ErrNil, i)
		checkSet(t, s, api.ErrNil, i, 1)
		checkPair(t, s, api.ErrNil, i, 0, func(a, b []byte) { t.Error("f is called") })
		checkPair(t, s, api.ErrNil, 0, i, func(a, b []byte) { t.Error("f is called") })
	}
	if s.Len() != 0 || s.Size() != 0 || len(s.Log()) != 0 {
		t.Errorf("Len %d, Size %d, Log %v", s.Len(), s.Size(), s.Log())
	}
}
