package squeeze

import (
	"math"
	"math/rand"
	"slices"
	"testing"

	"tryst/api"
	"tryst/slots"
)

// checkRefused: both calls answer an error, and Squeeze counts none.
func checkRefused(t *testing.T, s *slots.Slots, n int, want api.Errno) {
	t.Helper()
	if live, err := Squeeze(s, n); live != 0 || err != want {
		t.Fatalf("Squeeze of %d = %d, %d, want %d", n, live, err, want)
	}
	if err := Spread(s, n); err != want {
		t.Fatalf("Spread of %d = %d, want %d", n, err, want)
	}
}

// R2, R3: nil slots, ahead of all other errors.
func TestNilSlots(t *testing.T) {
	for _, n := range []int{math.MinInt, -1, 0, 1, 2, 3, 65536, 65537, math.MaxInt} {
		checkRefused(t, nil, n, api.ErrNil)
	}
}

// wrongNumbers are not from 0 to length.
func wrongNumbers(length int) []int {
	return []int{math.MinInt, math.MinInt + 1, -65537, -65536, -2, -1, length + 1, length + 2, 2*length + 1, 65536, 65537, 131072, math.MaxInt/2 + 1, math.MaxInt}
}

// P18.1, P18.2: an n that is not from 0 to Len is ErrArg, and nothing is touched.
func TestNotThatMany(t *testing.T) {
	source := rand.New(rand.NewSource(1))
	for length := range 18 {
		for _, body := range []int{0, 1, 5} {
			lists := drawnRecords(source, length, 50, body)
			b := newBench(t, lists, setting{each: 2, window: 2})
			for _, n := range wrongNumbers(length) {
				checkRefused(t, b.slots, n, api.ErrArg)
			}
			checkUntouched(t, b)
			checkContents(t, b, lists)
		}
	}
}

// P18.1, P18.2, R2: slots that are shorter than a head are ErrLength, whatever n, of none too; a wrong n comes first. Nothing is touched.
func TestShortSlots(t *testing.T) {
	source := rand.New(rand.NewSource(2))
	for length := range 6 {
		for size := 1; size < api.HeadSize; size++ {
			lists := drawnLists(source, length, size, 2)
			b := emptyBench(t, length, size, setting{each: 3, window: 2})
			for i, list := range lists {
				if err := b.slots.Set(i, list); err != api.OK {
					t.Fatalf("Set(%d): %d", i, err)
				}
			}
			b.mark()
			for n := range length + 1 {
				checkRefused(t, b.slots, n, api.ErrLength)
			}
			for _, n := range wrongNumbers(length) {
				checkRefused(t, b.slots, n, api.ErrArg)
			}
			checkUntouched(t, b)
			checkContents(t, b, lists)
		}
	}
}

// P18.1, P18.2: slots that are just as long as a head are right, of every n from 0 to Len.
func TestJustAHead(t *testing.T) {
	source := rand.New(rand.NewSource(3))
	for length := range 10 {
		for n := range length + 1 {
			lists := drawnRecords(source, length, 50, 0)
			b := newBench(t, lists, setting{each: 2, window: 2})
			_, live := measuredOf(lists, n)
			checkLive(t, b, n, live)
			checkTouched(t, b, squeezeLog(n))
			checkSpread(t, b, n)
			want, _ := measuredOf(lists, n)
			checkContents(t, b, want)
		}
	}
}

// P18.1, P18.2, P18.5: of no slots nothing is touched; of one it is got and set, and there is no hop.
func TestNoneAndOne(t *testing.T) {
	for length := range 4 {
		lists := drawnRecords(rand.New(rand.NewSource(4)), length, 100, 2)
		b := newBench(t, lists, setting{each: 1, window: 2})
		held := b.pager.Held()
		checkLive(t, b, 0, 0)
		checkSpread(t, b, 0)
		if length > 0 {
			checkSpread(t, b, 1)
		}
		checkUntouched(t, b)
		if !slices.Equal(b.pager.Held(), held) {
			t.Fatalf("held are %v, want %v", b.pager.Held(), held)
		}
		if length > 0 {
			checkLive(t, b, 1, 1)
			checkTouched(t, b, []api.Access{{Kind: api.AxGet}, {Kind: api.AxSet}})
			lists[0] = withRank(lists[0], 0)
		}
		checkContents(t, b, lists)
	}
}

// P18.1, P18.2, R2: above MaxPages n is ErrArg, though there are as many slots, and ahead of ErrLength.
func TestAboveMaxPages(t *testing.T) {
	for _, size := range []int{25, 26} {
		b := emptyBench(t, 65538, size, setting{each: 150, window: 2})
		for _, n := range []int{-1, 65537, 65538, 65539, math.MaxInt} {
			checkRefused(t, b.slots, n, api.ErrArg)
		}
		if size < api.HeadSize {
			checkRefused(t, b.slots, 65536, api.ErrLength)
		}
		checkUntouched(t, b)
	}
}

// P18.1 to P18.5: as many as MaxPages, to the last hop; there are distances in which the Rank has 16 bits. Two slots behind are not touched.
func TestMaxPages(t *testing.T) {
	source := rand.New(rand.NewSource(5))
	lists := drawnRecords(source, 65538, 40, 0)
	b := newBench(t, lists, setting{each: 16, window: 4})
	want, live := measuredOf(lists, 65536)
	checkLive(t, b, 65536, live)
	checkTouched(t, b, squeezeLog(65536))
	checkSqueezed(t, b.contents(t), lists, 65536)
	b.mark()
	checkSpread(t, b, 65536)
	checkTouched(t, b, spreadLog(65536))
	checkContents(t, b, want)
}
