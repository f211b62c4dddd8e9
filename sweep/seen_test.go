package sweep

import (
	"math/rand"
	"slices"
	"testing"
)

// P19.8, R8: which accesses are made, and what the host sees, hangs on n and on the call alone: not on what stands there, nor on how many groups are asked for, nor on how many slots there are behind.
func TestWhatIsSeen(t *testing.T) {
	source := rand.New(rand.NewSource(14))
	for _, n := range numbers() {
		for _, each := range []int{1, 3} {
			var first *bench
			for k, lists := range [][][]byte{
				drawnRecords(source, n+2, 0, 4, 4), drawnRecords(source, n+2, 100, 1, 4), drawnRecords(source, n+2, 50, 3, 4),
				drawnLists(source, n+2, 30, 1), drawnLists(source, n+2, 30, 3), drawnLists(source, n+2, 30, 256),
			} {
				b := newBench(t, lists, setting{each: each, window: 2})
				sweepAll(t, b, n, 1+k*11)
				if first == nil {
					first = b
				}
				if !slices.Equal(b.store.Log(), first.store.Log()) {
					t.Fatalf("of %d the host sees %v, and then %v", n, first.store.Log(), b.store.Log())
				}
			}
			sweepAll(t, newBench(t, drawnRecords(source, n+40, 50, 2, 4), setting{each: each, window: 2}), n, 64)
		}
	}
}

// sweepAll makes each call, and holds its accesses to those of n.
func sweepAll(t *testing.T, b *bench, n, groups int) {
	t.Helper()
	checkPass(t, Ranks(b.slots, n))
	_, censusErr := Census(b.slots, n)
	checkPass(t, censusErr)
	_, countsErr := Counts(b.slots, n, groups)
	checkPass(t, countsErr)
	checkPass(t, Forward(b.slots, n, func(list []byte) { list[0] ^= 1 }))
	checkPass(t, Backward(b.slots, n, func(list []byte) {}))
	checkPass(t, Neighbours(b.slots, n, func(x, y []byte) { copy(x, y) }))
	checkTouched(t, b, slices.Concat(forwardLog(n), getsOf(n), getsOf(n), forwardLog(n), backwardLog(n), neighboursLog(n)))
}
