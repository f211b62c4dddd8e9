package sorter

import (
	"bytes"
	"math"
	"math/rand"
	"slices"
	"testing"

	"tryst/api"
	"tryst/slots"
)

// checkRefused: all three calls answer an error, ask nothing and touch nothing; Sorted says no.
func checkRefused(t *testing.T, s *slots.Slots, n int, want api.Errno) {
	t.Helper()
	checkSortRefused(t, s, n, want)
	if answer, err := Sorted(s, n, never(t)); answer || err != want {
		t.Fatalf("Sorted of %d = %v, %d, want %d", n, answer, err, want)
	}
}

func checkSortRefused(t *testing.T, s *slots.Slots, n int, want api.Errno) {
	t.Helper()
	if err := Sort(s, n, never(t)); err != want {
		t.Fatalf("Sort of %d = %d, want %d", n, err, want)
	}
	if err := Back(s, n); err != want {
		t.Fatalf("Back of %d = %d, want %d", n, err, want)
	}
}

func isSize(n int) bool { return n == 1 || n > 1 && n%2 == 0 && isSize(n/2) && n <= 65536 }

// R2, R3: nil slots, ahead of all other errors.
func TestNilSlots(t *testing.T) {
	for _, n := range []int{math.MinInt, -1, 0, 1, 2, 3, 4, 65536, 65537, math.MaxInt} {
		checkRefused(t, nil, n, api.ErrNil)
	}
}

// P17.1 to P17.3, R2: an n that is not from 0 to Len, size or no size, is ErrArg.
func TestNotThatMany(t *testing.T) {
	source := rand.New(rand.NewSource(1))
	for length := range 18 {
		lists := drawnLists(source, length, 3, 200)
		b := newBench(t, lists, setting{each: 2, window: 2})
		for _, n := range []int{math.MinInt, math.MinInt + 1, -65536, -4, -2, -1, length + 1, length + 2, 2*length + 1, 32, 64, 65536, 65537, math.MaxInt/2 + 1, math.MaxInt} {
			checkRefused(t, b.slots, n, api.ErrArg)
		}
		checkUntouched(t, b)
		checkContents(t, b, lists)
	}
}

// P17.1, P17.2: from 0 to Len: OK of 0 and of sizes, else ErrPower, and nothing is done.
func TestNoSizes(t *testing.T) {
	source := rand.New(rand.NewSource(2))
	for length := range 70 {
		lists := drawnLists(source, length, 2, 200)
		b := newBench(t, lists, setting{each: 7, window: 2})
		for n := range length + 1 {
			if n != 0 && !isSize(n) {
				checkSortRefused(t, b.slots, n, api.ErrPower)
			}
		}
		checkUntouched(t, b)
		checkContents(t, b, lists)
		for n := range length + 1 {
			if n == 0 || isSize(n) {
				if err := Sort(b.slots, n, func(x, y []byte) uint64 { return 0 }); err != api.OK {
					t.Fatalf("Sort of %d among %d = %d", n, length, err)
				}
			}
		}
		checkContents(t, b, lists)
	}
}

// P17.1, P17.3: of no slots, and of one, nothing is asked; Sort touches nothing, Sorted gets the one.
func TestNoneAndOne(t *testing.T) {
	for length := range 4 {
		lists := drawnLists(rand.New(rand.NewSource(3)), length, 2, 200)
		b := newBench(t, lists, setting{each: 1, window: 2})
		held := b.pager.Held()
		for n := range min(length, 1) + 1 {
			checkSortRefused(t, b.slots, n, api.OK)
		}
		checkUntouched(t, b)
		if !slices.Equal(b.pager.Held(), held) {
			t.Fatalf("held are %v, want %v", b.pager.Held(), held)
		}
		checkAnswer(t, b.slots, 0, never(t), true)
		checkUntouched(t, b)
		if length > 0 {
			checkAnswer(t, b.slots, 1, never(t), true)
			checkTouched(t, b, getsOf(1))
		}
		checkContents(t, b, lists)
	}
}

// P17.1, P17.2: the greatest size is one, which is told by its first gates, up to where the store refuses.
func TestGreatestSize(t *testing.T) {
	want := pairsOf(65536)[:4097]
	for _, call := range []func(b *bench) api.Errno{
		func(b *bench) api.Errno { return Sort(b.slots, 65536, func(x, y []byte) uint64 { return yes }) },
		func(b *bench) api.Errno { return Back(b.slots, 65536) },
	} {
		b := emptyBench(t, 65536, 1, setting{each: 4096, window: 2})
		b.store.refuse[0] = 777
		if err := call(b); err != 777 {
			t.Fatalf("of 65536: %d", err)
		}
		if got := b.touched(); !slices.Equal(got, want) {
			t.Fatalf("%d accesses", len(got))
		}
	}
}

// P17.1 to P17.3: beyond MaxPages there is no size, though there are as many slots; Sorted asks for no size.
func TestBeyondTheGreatestSize(t *testing.T) {
	b := emptyBench(t, 131072, 1, setting{each: 4096, window: 2})
	for _, n := range []int{65535, 65537, 98304, 131071, 131072} {
		checkSortRefused(t, b.slots, n, api.ErrPower)
	}
	checkRefused(t, b.slots, 131073, api.ErrArg)
	checkUntouched(t, b)
	asked := 0
	checkAnswer(t, b.slots, 131072, func(x, y []byte) uint64 {
		asked++
		if !bytes.Equal(x, []byte{0}) || !bytes.Equal(y, []byte{0}) {
			t.Errorf("asked of %v, %v", x, y)
		}
		return 0
	}, true)
	if asked != 131071 {
		t.Errorf("asked %d times", asked)
	}
	checkTouched(t, b, getsOf(131072))
}
