package sorter

import (
	"bytes"
	"fmt"
	"math/rand"
	"slices"
	"testing"

	"tryst/api"
	"tryst/record"
)

// checkSorted holds Sorted to the model: the answer, accesses, touches, and what before is asked; nothing changes.
func checkSorted(t *testing.T, lists [][]byte, n int, how setting, before order) {
	t.Helper()
	got, want := newBench(t, lists, how), newBench(t, lists, how)
	var asked, wantAsked []question
	answer, err := Sorted(got.slots, n, noted(got, &asked, before))
	wantAnswer, _ := sortedOf(want.slots, n, noted(want, &wantAsked, before))
	if answer != wantAnswer || err != api.OK {
		t.Fatalf("Sorted of %d = %v, %d, want %v", n, answer, err, wantAnswer)
	}
	if !slices.Equal(asked, wantAsked) || len(asked) != max(n-1, 0) {
		t.Fatalf("of Sorted of %d before is asked %v, want %v", n, asked, wantAsked)
	}
	checkTouched(t, got, getsOf(n))
	checkSameLife(t, fmt.Sprintf("Sorted of %d", n), got, want)
	checkContents(t, got, lists)
}

// P17.3: slot by slot, of any number, of records and of what is none.
func TestSortedSlotBySlot(t *testing.T) {
	source := rand.New(rand.NewSource(11))
	for n := range 12 {
		for _, how := range settings() {
			for _, before := range append(orders(), words()...) {
				checkSorted(t, drawnRecords(source, n, 2, 1), n, how, before)
				checkSorted(t, drawnLists(source, n+3, 1, 3), n, how, before)
				checkSorted(t, drawnLists(source, n+1, 26, 2), n, how, before)
			}
		}
	}
}

// P17.3: one that is out of order, wherever it stands, is told, and all slots are touched all the same; two that are alike are in order.
func TestSortedOfOneWrong(t *testing.T) {
	below := func(a, b []byte) uint64 { return maskOf(a[0] < b[0]) }
	for n := 2; n < 20; n++ {
		var lists [][]byte
		for i := range n + 1 {
			lists = append(lists, []byte{byte(2 * (i / 2))})
		}
		b := newBench(t, lists, setting{each: 3, window: 2})
		checkAnswer(t, b.slots, n, below, true)
		for at := 1; at < n; at++ {
			wrong := slices.Clone(lists)
			wrong[at], wrong[at-1] = []byte{40}, []byte{41}
			b := newBench(t, wrong, setting{each: 3, window: 2})
			checkAnswer(t, b.slots, n, below, false)
			checkTouched(t, b, getsOf(n))
		}
	}
	b := newBench(t, [][]byte{{1}, {2}, {3}, {0}}, setting{each: 3, window: 2})
	checkAnswer(t, b.slots, 3, below, true)
	checkAnswer(t, b.slots, 4, below, false)
}

// P17.3: any word but 0 is a yes, at whichever slot it is answered, whatever is answered of the others.
func TestSortedByWords(t *testing.T) {
	for _, word := range []uint64{1, 2, 0x80, 0x100, 1 << 32, 1 << 63, yes, yes - 1, yes - 0xff} {
		for n := 2; n < 10; n++ {
			for at := range n - 1 {
				for _, both := range []bool{false, true} {
					b := newBench(t, unlikeLists(n), setting{each: 3, window: 2})
					asked := 0
					checkAnswer(t, b.slots, n, func(x, y []byte) uint64 {
						asked++
						if asked-1 == at || both && asked-1 > at {
							return word
						}
						return 0
					}, false)
					if asked != n-1 {
						t.Fatalf("asked %d times of %d", asked, n)
					}
					checkTouched(t, b, getsOf(n))
				}
			}
		}
	}
}

// unlikeLists are n lists of one byte, each unlike the others.
func unlikeLists(n int) [][]byte {
	var lists [][]byte
	for i := range n {
		lists = append(lists, []byte{byte(i)})
	}
	return lists
}

// P17.3: two answers that have no bit, or just the same bits, in common do not make up for each other.
func TestYesesAddUp(t *testing.T) {
	for _, second := range []uint64{5, yes - 4, 2, 1 << 63} {
		b := newBench(t, unlikeLists(3), setting{each: 3, window: 2})
		answers := []uint64{5, second}
		checkAnswer(t, b.slots, 3, func(x, y []byte) uint64 {
			word := answers[0]
			answers = answers[1:]
			return word
		}, false)
	}
}

// P17.3: the slot, and then the one ahead of it.
func TestSlotAndTheOneAhead(t *testing.T) {
	b := newBench(t, [][]byte{{7}, {5}, {6}}, setting{each: 3, window: 2})
	var asked [][2]byte
	checkAnswer(t, b.slots, 3, func(x, y []byte) uint64 {
		asked = append(asked, [2]byte{x[0], y[0]})
		return 0
	}, true)
	if !slices.Equal(asked, [][2]byte{{5, 7}, {6, 5}}) {
		t.Fatalf("asked %v", asked)
	}
}

// overwrite goes up to the end of the room that a list has.
func overwrite(b []byte) {
	b = b[:cap(b)]
	for k := range b {
		b[k] ^= 0x5a
	}
}

// spoiling is an order that writes over all that it was ever handed, ahead of its answer and behind it.
func spoiling(kept *[][]byte, before order) order {
	return func(a, b []byte) uint64 {
		word := before(a, b)
		for _, list := range *kept {
			overwrite(list)
		}
		overwrite(a)
		overwrite(b)
		*kept = append(*kept, a, b)
		return word
	}
}

// R5: what before writes into what it is handed, or keeps of it, does nothing.
func TestBeforeWrites(t *testing.T) {
	source := rand.New(rand.NewSource(12))
	for _, n := range []int{2, 4, 8, 16} {
		for _, before := range append(orders(), words()...) {
			lists := drawnRecords(source, n, 2, 7)
			got, want := newBench(t, lists, setting{each: 3, window: 2}), newBench(t, lists, setting{each: 3, window: 2})
			var kept [][]byte
			if err := Sort(got.slots, n, spoiling(&kept, before)); err != api.OK {
				t.Fatalf("Sort of %d = %d", n, err)
			}
			sortOf(want.slots, n, before)
			answer, err := Sorted(got.slots, n, spoiling(&kept, before))
			wantAnswer, _ := sortedOf(want.slots, n, before)
			if answer != wantAnswer || err != api.OK {
				t.Fatalf("Sorted of %d = %v, %d, want %v", n, answer, err, wantAnswer)
			}
			for _, list := range kept {
				overwrite(list)
			}
			checkSameLife(t, "spoilt", got, want)
		}
	}
}

// R5: what before is handed is new memory each time: kept, it stays as it was, whatever comes behind.
func TestBeforeKeeps(t *testing.T) {
	source := rand.New(rand.NewSource(13))
	b := newBench(t, drawnRecords(source, 16, 3, 2), setting{each: 5, window: 2})
	var kept, as [][]byte
	keeping := func(x, y []byte) uint64 {
		kept = append(kept, x, y)
		as = append(as, bytes.Clone(x), bytes.Clone(y))
		return record.ByGroup(x, y)
	}
	if err := Sort(b.slots, 16, keeping); err != api.OK {
		t.Fatalf("Sort = %d", err)
	}
	checkAnswer(t, b.slots, 16, keeping, true)
	if err := Back(b.slots, 16); err != api.OK {
		t.Fatalf("Back = %d", err)
	}
	for at := range kept {
		if !bytes.Equal(kept[at], as[at]) {
			t.Fatalf("the list %d that was kept is another", at)
		}
		overwrite(kept[at])
	}
}
