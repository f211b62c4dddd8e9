package slots

import (
	"bytes"
	"math"
	"testing"

	"tryst/api"
)

// filled are slots of 2 bytes on the pages 1 to 3, two a page and a byte that is left: slot i holds i, 10 + i, and the rest 90 + the page.
func filled(t *testing.T) (*shelf, *Slots) {
	t.Helper()
	store := newShelf(5, 5)
	p := over(t, store, 2)
	for page := 1; page <= 3; page++ {
		i := byte(2 * (page - 1))
		if err := p.Save(page, []byte{i, 10 + i, i + 1, 11 + i, byte(90 + page)}); err != api.OK {
			t.Fatalf("Save: %d", err)
		}
	}
	// Nothing of them is held any more.
	p.Load(0)
	p.Load(4)
	checkHeld(t, p, 0, 4)
	checkOrder(t, store, 101, 102, 103)
	return store, made(t, p, 1, 6, 2)
}

// P15.5: f is called once, with what stands in i and what stands in j, in this order; what it writes is laid into both.
func TestPair(t *testing.T) {
	for i := range 6 {
		for j := range 6 {
			if i == j {
				continue
			}
			_, s := filled(t)
			calls := 0
			checkPair(t, s, api.OK, i, j, func(a, b []byte) {
				calls++
				if !bytes.Equal(a, []byte{byte(i), byte(10 + i)}) || !bytes.Equal(b, []byte{byte(j), byte(10 + j)}) {
					t.Errorf("of Pair(%d, %d) f is handed %v, %v", i, j, a, b)
				}
				a[0], b[1] = 70, 80
			})
			if calls != 1 {
				t.Errorf("of Pair(%d, %d) f is called %d times", i, j, calls)
			}
			for k := range 6 {
				want := []byte{byte(k), byte(10 + k)}
				if k == i {
					want[0] = 70
				}
				if k == j {
					want[1] = 80
				}
				checkGet(t, s, k, want...)
			}
			for page := 1; page <= 3; page++ {
				if text, err := s.pager.Load(page); err != api.OK || text[4] != byte(90+page) {
					t.Errorf("behind Pair(%d, %d) the page %d: %v, %d", i, j, page, text, err)
				}
			}
		}
	}
}

// P15.5: of two slots on two pages the page of i is loaded and saved first, in either order; on one page, it is loaded and saved once.
func TestPairPages(t *testing.T) {
	for _, c := range []struct {
		i, j  int
		held  []int
		deeds []int
		flush []int
	}{
		{0, 5, []int{1, 3}, []int{1, 3}, []int{101, 103}},
		{5, 0, []int{3, 1}, []int{3, 1}, []int{101, 103}},
		{2, 1, []int{2, 1}, []int{2, 1}, []int{101, 102}},
		{1, 2, []int{1, 2}, []int{1, 2}, []int{101, 102}},
		{2, 3, []int{4, 2}, []int{2}, []int{102}},
		{3, 2, []int{4, 2}, []int{2}, []int{102}},
	} {
		for _, f := range []func(a, b []byte){nothing, exchange} {
			store, s := filled(t)
			checkPair(t, s, api.OK, c.i, c.j, f)
			checkHeld(t, s.pager, c.held...)
			want := append([]int{101, 102, 103}, c.deeds...)
			checkOrder(t, store, want...)
			s.pager.Flush()
			checkOrder(t, store, append(want, c.flush...)...)
			checkLog(t, s, [3]int{api.AxPair, c.i, c.j})
		}
	}
}

// P15.5: a page that is held is used by its load, so that it stays while the other one comes.
func TestPairHoldsItsPages(t *testing.T) {
	store, s := filled(t)
	checkGet(t, s, 0, 0, 10)
	checkGet(t, s, 2, 2, 12)
	checkPair(t, s, api.OK, 0, 4, exchange)
	checkHeld(t, s.pager, 1, 3)
	checkOrder(t, store, 101, 102, 103, 1, 2, 3)
	checkGet(t, s, 2, 2, 12)
	checkPair(t, s, api.OK, 4, 2, exchange)
	checkHeld(t, s.pager, 3, 2)
	checkOrder(t, store, 101, 102, 103, 1, 2, 3, 101, 2)
}

// P15.5: while f runs, both pages are loaded, and neither is saved.
func TestPairCallsBetween(t *testing.T) {
	store, s := filled(t)
	checkPair(t, s, api.OK, 5, 0, func(a, b []byte) {
		exchange(a, b)
		checkHeld(t, s.pager, 3, 1)
		checkLog(t, s, [3]int{api.AxPair, 5, 0})
		s.pager.Flush()
		checkOrder(t, store, 101, 102, 103, 3, 1)
	})
	s.pager.Flush()
	checkOrder(t, store, 101, 102, 103, 3, 1, 101, 103)
}

// P15.5, R2: slots that are not there, and one slot twice: f is not called, no access, no page.
func TestPairRefused(t *testing.T) {
	store, s := filled(t)
	for _, c := range [][2]int{
		{-1, 0}, {0, -1}, {6, 0}, {0, 6}, {-1, 6}, {6, -1}, {-1, -1}, {6, 6}, {7, 0}, {0, 0}, {5, 5}, {3, 3},
		{math.MinInt, 0}, {0, math.MaxInt}, {math.MaxInt, math.MinInt},
	} {
		checkPair(t, s, api.ErrArg, c[0], c[1], func(a, b []byte) { t.Errorf("of Pair(%d, %d) f is called", c[0], c[1]) })
	}
	checkHeld(t, s.pager, 0, 4)
	checkLog(t, s)
	s.pager.Flush()
	checkOrder(t, store, 101, 102, 103)
}

// P15.5: what f keeps of its lists does nothing any more, neither to the slots nor to later calls.
func TestPairLendsNothing(t *testing.T) {
	for _, c := range [][2]int{{0, 1}, {1, 0}, {0, 4}, {5, 2}} {
		_, s := filled(t)
		var one, other []byte
		checkPair(t, s, api.OK, c[0], c[1], func(a, b []byte) { one, other = a, b })
		overwrite(one)
		overwrite(other)
		checkPair(t, s, api.OK, c[1], c[0], func(a, b []byte) {
			overwrite(one)
			overwrite(other)
			if a[0] != byte(c[1]) || b[0] != byte(c[0]) {
				t.Errorf("f is handed %v, %v", a, b)
			}
		})
		overwrite(one)
		overwrite(other)
		for i := range 6 {
			checkGet(t, s, i, byte(i), byte(10+i))
		}
	}
}

// P15.5, R5: the two lists are of size bytes, and what f writes behind their ends does nothing.
func TestPairListsAreTheirOwn(t *testing.T) {
	for _, c := range [][2]int{{0, 1}, {1, 0}, {0, 4}, {5, 2}} {
		_, s := filled(t)
		checkPair(t, s, api.OK, c[0], c[1], func(a, b []byte) {
			if len(a) != 2 || len(b) != 2 {
				t.Errorf("f is handed %d and %d bytes", len(a), len(b))
			}
			overwrite(a)
			overwrite(b[2:])
			if b[0] != byte(c[1]) || b[1] != byte(10+c[1]) {
				t.Errorf("with the one the other is changed: %v", b)
			}
		})
		for i := range 6 {
			want := []byte{byte(i), byte(10 + i)}
			if i == c[0] {
				overwrite(want)
			}
			checkGet(t, s, i, want...)
		}
	}
}
