package sweep

import (
	"math/rand"
	"testing"

	"tryst/api"
	"tryst/record"
)

// P19.5: each Group by its number, for each number of groups there may be; none that is dead, or no record, or has another Group.
func TestCountsOfEveryNumber(t *testing.T) {
	source := rand.New(rand.NewSource(12))
	for _, n := range append(numbers(), 150) {
		for _, live := range []int{0, 60, 100} {
			lists := drawnRecords(source, n+3, live, 70, 1)
			b := newBench(t, lists, setting{each: 6, window: 2})
			for groups := 1; groups <= api.MaxBuckets; groups++ {
				checkCounts(t, b, n, groups, countsOf(lists[:n], groups))
			}
		}
	}
}

// P19.5: every text, also where Groups do not stand beside one another.
func TestCountsOfEveryText(t *testing.T) {
	for length := range 5 {
		for _, text := range textsOf("ABCa?", length) {
			lists := letters(text)
			b := newBench(t, lists, setting{each: 100, window: 2})
			for n := range length + 1 {
				for _, groups := range []int{1, 2, 3, 4} {
					b.mark()
					checkCounts(t, b, n, groups, countsOf(lists[:n], groups))
					checkTouched(t, b, getsOf(n))
				}
			}
			checkContents(t, b, lists)
		}
	}
}

// P19.5: a Group that is no number of Counts: 0, groups, one more, above MaxBuckets, above a byte, and a number in the last four bytes, or in others, with a byte elsewhere.
func TestGroupsThatAreNoNumber(t *testing.T) {
	var groups []api.Drop
	for _, k := range []uint32{0, 5, 6, 63, 64, 65, 255, 256, 257, 1 << 8, 1 << 16, 1 << 24, 1<<24 + 1, 1<<32 - 1} {
		groups = append(groups, groupOf(k))
	}
	for at := range 15 {
		for k := range uint32(5) {
			group := groupOf(k)
			group[at] = 1
			groups = append(groups, group)
		}
	}
	var lists [][]byte
	for _, group := range groups {
		lists = append(lists, record.Make(api.Head{Live: 1, Group: group}, []byte{0, 0, 0, 1}))
	}
	b := newBench(t, lists, setting{each: 5, window: 2})
	checkCounts(t, b, len(lists), 5, []int{0, 0, 0, 0})
	if err := b.slots.Set(3, record.Make(api.Head{Live: 1, Flag: 1, Group: groupOf(4)}, []byte{0, 0, 0, 1})); err != api.OK {
		t.Fatalf("Set = %d", err)
	}
	checkCounts(t, b, len(lists), 5, []int{0, 0, 0, 1})
	checkCounts(t, b, len(lists), 4, []int{0, 0, 0})
}

// P19.5: which ones count, by Live and Flag; what bears any bytes, and slots shorter than a head, count nowhere but by chance.
func TestWhoCounts(t *testing.T) {
	for _, head := range headsOfAll() {
		lists := letters("B")
		lists[0][0], lists[0][1] = head[0], head[1]
		want := []int{0, 0, 0}
		if head[0] == 1 && head[1] <= 1 {
			want[1] = 1
		}
		checkCounts(t, newBench(t, lists, setting{each: 1, window: 2}), 1, 4, want)
	}
	source := rand.New(rand.NewSource(13))
	for _, n := range numbers() {
		for size := 1; size < 30; size++ {
			for _, most := range []int{2, 3, 256} {
				lists := drawnLists(source, n, size, most)
				checkCounts(t, newBench(t, lists, setting{each: 3, window: 2}), n, 64, countsOf(lists, 64))
			}
		}
	}
	head := record.Make(api.Head{Live: 1, Group: groupOf(1)}, nil)
	for size := 1; size <= api.HeadSize; size++ {
		want := []int{0}
		if size == api.HeadSize {
			want[0] = 1
		}
		checkCounts(t, newBench(t, [][]byte{head[:size]}, setting{each: 1, window: 2}), 1, 2, want)
	}
}

// R5: counts are new memory each time.
func TestCountsAreNew(t *testing.T) {
	b := newBench(t, letters("AAB"), setting{each: 2, window: 2})
	once, _ := Counts(b.slots, 3, 4)
	once[0], once[1] = 70, 71
	_ = append(once, 72)
	checkCounts(t, b, 3, 4, []int{2, 1, 0})
}
