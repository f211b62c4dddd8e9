package squeeze

import (
	"bytes"
	"fmt"
	"math/rand"
	"testing"
)

// lifeOfSpread holds Spread to the model, life by life: accesses, touches, contents.
func lifeOfSpread(t *testing.T, lists [][]byte, n int, how setting) {
	t.Helper()
	got, want := newBench(t, lists, how), newBench(t, lists, how)
	checkSpread(t, got, n)
	spreadOf(want.slots, n)
	checkTouched(t, got, spreadLog(n))
	checkSameLife(t, fmt.Sprintf("Spread of %d", n), got, want)
	checkContents(t, got, last(spreadStates(lists, n)))
}

// P18.2: hop by hop, the last one first, of records with any Rank: where live ones stand in each other's way too; slots behind n stay as they are.
func TestSpreadOfAnyRank(t *testing.T) {
	source := rand.New(rand.NewSource(12))
	for _, n := range numbers() {
		for _, more := range []int{0, 1, 5} {
			for _, how := range settings() {
				for _, live := range []int{0, 20, 60, 100} {
					lists := drawnRecords(source, n+more, live, 2)
					lifeOfSpread(t, lists, n, how)
					lifeOfSpread(t, withLowRanks(source, lists, n+1), n, how)
				}
			}
		}
	}
}

// P18.2: what is no record does not go, whatever stands where its Rank would be; a live one changes places with it.
func TestSpreadOfNoRecords(t *testing.T) {
	source := rand.New(rand.NewSource(13))
	for _, n := range numbers() {
		for _, size := range []int{26, 27, 40} {
			for _, most := range []int{2, 3, 256} {
				lists := drawnLists(source, n+1, size, most)
				lifeOfSpread(t, lists, n, setting{each: 2, window: 2})
				lifeOfSpread(t, withLowRanks(source, lists, n+1), n, setting{each: 3, window: 2})
			}
		}
	}
}

// P18.2: the record in To is asked, and it alone, whether it is live, by Live and Flag; the other one may be live or dead, or no record.
func TestToIsAsked(t *testing.T) {
	for _, head := range headsThatAreNone() {
		for _, other := range headsThatAreNone() {
			for rank := range 4 {
				to := withRank(bytes.Repeat([]byte{0x33}, 27), rank)
				to[0], to[1] = head[0], head[1]
				from := withRank(bytes.Repeat([]byte{0xcc}, 27), 1-rank%2)
				from[0], from[1] = other[0], other[1]
				b := newBench(t, [][]byte{to, from}, setting{each: 2, window: 2})
				checkSpread(t, b, 2)
				if head[0] == 1 && head[1] <= 1 && rank%2 == 1 {
					checkContents(t, b, [][]byte{from, to})
				} else {
					checkContents(t, b, [][]byte{to, from})
				}
			}
		}
	}
}

// P18.2: of a Rank each hop asks for its own bit alone: with the bit d alone the first of n goes d places, with bits that no hop has it stays.
func TestOneBitOfARank(t *testing.T) {
	for _, n := range []int{2, 3, 5, 8, 9, 17, 33, 300} {
		for bit := range 32 {
			for _, others := range []bool{false, true} {
				lists := make([][]byte, n)
				for i := range lists {
					lists[i] = bytes.Repeat([]byte{0xff}, 28)
					lists[i][0], lists[i][1], lists[i][27] = 0, 0, byte(i)
				}
				goes := 0
				if 1<<bit < n {
					goes = 1 << bit
				}
				rank := 1 << bit
				if others {
					// Bits above those of all hops do nothing beside it.
					rank |= 0xffff0000
				}
				lists[0] = withRank(lists[0], rank)
				lists[0][0] = 1
				b := newBench(t, lists, setting{each: 50, window: 2})
				checkSpread(t, b, n)
				want := lists
				want[0], want[goes] = want[goes], want[0]
				checkContents(t, b, want)
			}
		}
	}
}

// P18.2: nothing is measured anew: without a Squeeze ahead of it nothing but places changes, not a byte of a record.
func TestSpreadKeepsRanks(t *testing.T) {
	source := rand.New(rand.NewSource(14))
	for _, n := range numbers() {
		lists := withLowRanks(source, drawnRecords(source, n, 60, 3), n+1)
		b := newBench(t, lists, setting{each: 3, window: 2})
		checkSpread(t, b, n)
		count := map[string]int{}
		for _, list := range lists {
			count[string(list)]++
		}
		for _, list := range b.contents(t) {
			count[string(list)]--
		}
		for list, left := range count {
			if left != 0 {
				t.Fatalf("of %d: %x is there %d times fewer", n, list, left)
			}
		}
	}
}
