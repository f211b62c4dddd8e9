package sweep

import (
	"bytes"
	"math/rand"
	"slices"
	"strings"
	"testing"

	"tryst/api"
	"tryst/record"
	"tryst/sorter"
)

// checkRows holds Census and Ranks of the first n slots to the model: answers, accesses, contents.
func checkRows(t *testing.T, lists [][]byte, n int, how setting) {
	t.Helper()
	b := newBench(t, lists, how)
	checkCensus(t, b, n, censusOf(lists[:n]))
	checkTouched(t, b, getsOf(n))
	checkContents(t, b, lists)
	b.mark()
	checkPass(t, Ranks(b.slots, n))
	checkTouched(t, b, forwardLog(n))
	checkContents(t, b, rankedOf(lists, n))
}

// P19.3, P19.4: every text of two Groups, of dead ones and of what is no record: rows at the first slot and at the last one, beside one another and apart, of one, two, three and more, and those that go on behind the n slots.
func TestEveryText(t *testing.T) {
	for length := range 6 {
		for _, text := range textsOf("ABa?", length) {
			for n := range length + 1 {
				checkRows(t, letters(text), n, setting{each: 100, window: 2})
			}
		}
	}
}

// P19.3, P19.4: rows one by one, told by hand.
func TestRowsByHand(t *testing.T) {
	const none = 0x7f6e5d4c
	for _, c := range []struct {
		text   string
		n      int
		census api.Census
		ranks  []int
	}{
		{"A", 1, api.Census{Ones: 1}, []int{0}},
		{"a", 1, api.Census{}, []int{none}},
		{"AA", 2, api.Census{Twos: 1}, []int{0, 1}},
		{"AAA", 3, api.Census{More: 1}, []int{0, 1, 2}},
		{"AAAA", 4, api.Census{More: 1}, []int{0, 1, 2, 3}},
		{"ABA", 3, api.Census{Ones: 3}, []int{0, 0, 0}},
		{"AaA", 3, api.Census{Ones: 2}, []int{0, none, 0}},
		{"A?AA", 4, api.Census{Ones: 1, Twos: 1}, []int{0, none, 0, 1}},
		{"aaAAbbBBBa", 10, api.Census{Twos: 1, More: 1}, []int{none, none, 0, 1, none, none, 0, 1, 2, none}},
		{"AABB", 3, api.Census{Ones: 1, Twos: 1}, []int{0, 1, 0, none}},
		{"AAAA", 2, api.Census{Twos: 1}, []int{0, 1, none, none}},
		{"AAAA", 0, api.Census{}, []int{none, none, none, none}},
		{"AAABBBCC", 8, api.Census{Twos: 1, More: 2}, []int{0, 1, 2, 0, 1, 2, 0, 1}},
	} {
		for _, how := range settings() {
			b := newBench(t, letters(c.text), how)
			checkCensus(t, b, c.n, c.census)
			checkRanks(t, b, c.n, c.ranks...)
			checkCensus(t, b, c.n, c.census)
		}
	}
}

// P19.3, P19.4: drawn records, many and few of them live, of few Groups and of many; twice, so that Ranks stand there already.
func TestDrawnRows(t *testing.T) {
	source := rand.New(rand.NewSource(8))
	for _, n := range append(numbers(), 100, 257) {
		for _, how := range settings() {
			for _, live := range []int{0, 30, 80, 100} {
				for _, groups := range []int{1, 2, 5} {
					lists := drawnRecords(source, n+2, live, groups, 3)
					checkRows(t, lists, n, how)
					checkRows(t, rankedOf(lists, n+2), n, how)
				}
			}
		}
	}
}

// P19.3, P19.4: what bears any bytes, and slots shorter than a head: of these nothing is live, and nothing changes.
func TestRowsOfNoRecords(t *testing.T) {
	source := rand.New(rand.NewSource(9))
	for _, n := range numbers() {
		for _, size := range []int{1, 2, 5, 6, 9, 10, 11, 25, 26, 27, 40} {
			for _, most := range []int{1, 2, 3, 256} {
				checkRows(t, drawnLists(source, n+1, size, most), n, setting{each: 3, window: 2})
			}
		}
		for size := 1; size < api.HeadSize; size++ {
			lists := make([][]byte, n)
			for i := range lists {
				lists[i] = bytes.Repeat([]byte{1}, size)
			}
			b := newBench(t, lists, setting{each: 3, window: 2})
			checkCensus(t, b, n, api.Census{})
			checkPass(t, Ranks(b.slots, n))
			checkContents(t, b, lists)
		}
	}
}

// P19.3, P19.4: which ones are in a row, by Live and Flag: one between two that are, of the same Group.
func TestWhoIsInARow(t *testing.T) {
	for _, head := range headsOfAll() {
		lists := letters("AAA")
		lists[1][0], lists[1][1] = head[0], head[1]
		b := newBench(t, lists, setting{each: 2, window: 2})
		want, ranked := api.Census{Ones: 2}, [][]byte{withRank(lists[0], 0), lists[1], withRank(lists[2], 0)}
		if head[0] == 1 && head[1] <= 1 {
			want, ranked = api.Census{More: 1}, [][]byte{withRank(lists[0], 0), withRank(lists[1], 1), withRank(lists[2], 2)}
		}
		checkCensus(t, b, 3, want)
		checkPass(t, Ranks(b.slots, 3))
		checkContents(t, b, ranked)
	}
}

// P19.3, P19.4: each of the sixteen bytes of a Group tells rows apart, and no other byte does.
func TestWhatTellsRowsApart(t *testing.T) {
	for at := 1; at < 30; at++ {
		lists := [][]byte{bytes.Repeat([]byte{1}, 30), bytes.Repeat([]byte{1}, 30)}
		lists[1][at] = 0
		b := newBench(t, lists, setting{each: 1, window: 2})
		if at >= 10 && at < 26 {
			checkCensus(t, b, 2, api.Census{Ones: 2})
			checkRanks(t, b, 2, 0, 0)
		} else {
			checkCensus(t, b, 2, api.Census{Twos: 1})
			checkRanks(t, b, 2, 0, 1)
		}
	}
}

// P19.3: a Rank is the bytes 6 to 9, the lowest first, and all others stay; of a row of 65538 the last one's is 1 0 1 0. One row more is More.
func TestGreatRow(t *testing.T) {
	const n = 65538
	lists := make([][]byte, n+1)
	for i := range lists {
		lists[i] = bytes.Repeat([]byte{0xee}, 27)
		lists[i][0], lists[i][1], lists[i][26] = 1, 1, byte(i)
	}
	b := newBench(t, lists, setting{each: 16, window: 2})
	checkPass(t, Ranks(b.slots, n))
	checkTouched(t, b, forwardLog(n))
	got, err := b.slots.Get(n - 1)
	want := slices.Concat([]byte{1, 1, 0xee, 0xee, 0xee, 0xee, 1, 0, 1, 0}, bytes.Repeat([]byte{0xee}, 16), []byte{1})
	if !bytes.Equal(got, want) || err != api.OK {
		t.Fatalf("the last one is %v, %d, want %v", got, err, want)
	}
	checkContents(t, b, rankedOf(lists, n))
	b.mark()
	checkCensus(t, b, n, api.Census{More: 1})
	checkTouched(t, b, getsOf(n))
}

// checkByGroup is P19.7: the Ranks, the census and the counts, by how many records of each Group there are.
func checkByGroup(t *testing.T, b *bench, n int) {
	t.Helper()
	lists := b.contents(t)
	before, want := map[string]int{}, slices.Clone(lists)
	byNumber := make([]int, 5)
	for i, list := range lists[:n] {
		if isLive(list) {
			want[i] = withRank(list, before[groupIn(list)])
			before[groupIn(list)]++
			if number := list[25]; number > 0 && number < 6 {
				byNumber[number-1]++
			}
		}
	}
	var census api.Census
	for _, count := range before {
		switch {
		case count == 1:
			census.Ones++
		case count == 2:
			census.Twos++
		default:
			census.More++
		}
	}
	checkCensus(t, b, n, census)
	checkCounts(t, b, n, 6, byNumber)
	checkPass(t, Ranks(b.slots, n))
	checkContents(t, b, want)
}

// P19.7: of records that the layer 17 sorted.
func TestSortedRecords(t *testing.T) {
	source := rand.New(rand.NewSource(10))
	for _, n := range []int{0, 1, 2, 4, 8, 16, 64, 256} {
		for _, live := range []int{0, 40, 90, 100} {
			for _, groups := range []int{1, 3, 8, 60} {
				b := newBench(t, drawnRecords(source, n, live, groups, 2), setting{each: 8, window: 4})
				if err := sorter.Sort(b.slots, n, record.ByGroup); err != api.OK {
					t.Fatalf("Sort of %d = %d", n, err)
				}
				checkByGroup(t, b, n)
			}
		}
	}
}

// P19.7: those of one Group need only stand beside one another, in whatever order the Groups and they themselves come.
func TestGroupsBesideOneAnother(t *testing.T) {
	source := rand.New(rand.NewSource(11))
	for range 100 {
		text := ""
		for _, k := range source.Perm(8) {
			text += strings.Repeat(string(rune('A'+k)), source.Intn(5))
		}
		lists := letters(text + strings.Repeat("a", source.Intn(4)))
		checkByGroup(t, newBench(t, lists, setting{each: 4, window: 2}), len(lists))
	}
}

// The model by which rows are told, held to rows written by hand.
func TestModelOfRows(t *testing.T) {
	for text, want := range map[string][]row{
		"":        nil,
		"a?":      nil,
		"A":       {{0, 1}},
		"aAAB":    {{1, 2}, {3, 1}},
		"AA?AAAa": {{0, 2}, {3, 3}},
	} {
		if got := rowsOf(letters(text)); !slices.Equal(got, want) {
			t.Errorf("the rows of %s are %v, want %v", text, got, want)
		}
	}
}
