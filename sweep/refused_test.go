package sweep

import (
	"math"
	"math/rand"
	"testing"

	"tryst/api"
	"tryst/slots"
)

// checkRefused: all calls answer an error, call no step, and answer nothing beside it.
func checkRefused(t *testing.T, s *slots.Slots, n int, want api.Errno) {
	t.Helper()
	never := func(list []byte) { t.Error("step is called") }
	for name, err := range map[string]api.Errno{
		"Forward":    Forward(s, n, never),
		"Backward":   Backward(s, n, never),
		"Neighbours": Neighbours(s, n, func(x, y []byte) { t.Error("step is called") }),
		"Ranks":      Ranks(s, n),
	} {
		if err != want {
			t.Fatalf("%s of %d = %d, want %d", name, n, err, want)
		}
	}
	if census, err := Census(s, n); census != (api.Census{}) || err != want {
		t.Fatalf("Census of %d = %v, %d, want %d", n, census, err, want)
	}
	for _, groups := range append(wrongGroups(), 1, 2, 3, 63, 64) {
		checkCountsRefused(t, s, n, groups, want)
	}
}

func checkCountsRefused(t *testing.T, s *slots.Slots, n, groups int, want api.Errno) {
	t.Helper()
	if counts, err := Counts(s, n, groups); len(counts) != 0 || err != want {
		t.Fatalf("Counts of %d, %d = %v, %d, want %d", n, groups, counts, err, want)
	}
}

// wrongGroups are not from 1 to MaxBuckets.
func wrongGroups() []int {
	return []int{math.MinInt, math.MinInt + 1, -256, -2, -1, 0, 65, 66, 128, 256, 257, 1<<32 + 1, math.MaxInt}
}

// R2, R3: nil slots, ahead of all other errors, a wrong number of slots or of groups among them.
func TestNilSlots(t *testing.T) {
	for _, n := range []int{math.MinInt, -1, 0, 1, 2, 3, 65536, 65537, math.MaxInt} {
		checkRefused(t, nil, n, api.ErrNil)
	}
}

// P19.1 to P19.5, R2: an n that is not from 0 to Len is ErrArg, and nothing is touched; each from 0 to Len is right.
func TestNotThatMany(t *testing.T) {
	source := rand.New(rand.NewSource(15))
	for length := range 18 {
		for _, size := range []int{1, 25, 26, 30} {
			lists := drawnLists(source, length, size, 2)
			b := newBench(t, lists, setting{each: 2, window: 2})
			for _, n := range []int{math.MinInt, math.MinInt + 1, -65536, -2, -1, length + 1, length + 2, 2*length + 1, 65536, 65537, math.MaxInt/2 + 1, math.MaxInt} {
				checkRefused(t, b.slots, n, api.ErrArg)
			}
			checkUntouched(t, b)
			for n := range length + 1 {
				b.mark()
				sweepAll(t, b, n, 1+n)
			}
		}
	}
}

// P19.5, R2: groups that are not from 1 to MaxBuckets are ErrArg, whatever n, and nothing is touched; 1 and MaxBuckets are right.
func TestNotThatManyGroups(t *testing.T) {
	for length := range 4 {
		lists := letters("ABC"[:length])
		b := newBench(t, lists, setting{each: 2, window: 2})
		for n := range length + 1 {
			for _, groups := range wrongGroups() {
				checkCountsRefused(t, b.slots, n, groups, api.ErrArg)
			}
		}
		checkUntouched(t, b)
		for _, groups := range []int{1, 2, 63, 64} {
			checkCounts(t, b, length, groups, countsOf(lists, groups))
		}
	}
}

// P19.1 to P19.5: of no slots nothing is touched, whether there are any or not; of one it is got, and set where the call sets.
func TestNoneAndOne(t *testing.T) {
	for length := range 3 {
		lists := letters("AA"[:length])
		b := newBench(t, lists, setting{each: 1, window: 2})
		checkNothing(t, b.slots)
		checkUntouched(t, b)
		if length > 0 {
			sweepAll(t, b, 1, 3)
			checkTouched(t, b, []api.Access{
				{Kind: api.AxGet}, {Kind: api.AxSet}, {Kind: api.AxGet}, {Kind: api.AxGet}, {Kind: api.AxGet}, {Kind: api.AxSet}, {Kind: api.AxGet}, {Kind: api.AxSet},
			})
		}
	}
}

// checkNothing: of no slots all calls answer OK, and that there is nothing.
func checkNothing(t *testing.T, s *slots.Slots) {
	t.Helper()
	never := func(list []byte) { t.Error("step is called") }
	checkPass(t, Forward(s, 0, never))
	checkPass(t, Backward(s, 0, never))
	checkPass(t, Neighbours(s, 0, func(x, y []byte) { t.Error("step is called") }))
	checkPass(t, Ranks(s, 0))
	if census, err := Census(s, 0); census != (api.Census{}) || err != api.OK {
		t.Fatalf("Census of 0 = %v, %d", census, err)
	}
	for groups := 1; groups <= api.MaxBuckets; groups++ {
		counts, err := Counts(s, 0, groups)
		if len(counts) != groups-1 || err != api.OK {
			t.Fatalf("Counts of 0, %d = %v, %d", groups, counts, err)
		}
		for _, count := range counts {
			if count != 0 {
				t.Fatalf("Counts of 0, %d = %v", groups, counts)
			}
		}
	}
}

// P19.1, P19.8: beyond MaxPages there may be slots all the same, and all calls take as many.
func TestBeyondMaxPages(t *testing.T) {
	const n = 70001
	b := emptyBench(t, n+1, 1, setting{each: 64, window: 2})
	checkRefused(t, b.slots, n+2, api.ErrArg)
	checkUntouched(t, b)
	sweepAll(t, b, n, 2)
}
