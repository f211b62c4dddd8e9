package sorter

import (
	"bytes"
	"fmt"
	"math/rand"
	"slices"
	"strings"
	"testing"

	"tryst/api"
	"tryst/record"
)

// checkSort holds Sort to the model, life by life: accesses, touches, contents, and what before is asked.
func checkSort(t *testing.T, lists [][]byte, n int, how setting, before order) {
	t.Helper()
	got, want := newBench(t, lists, how), newBench(t, lists, how)
	var asked, wantAsked []question
	if err := Sort(got.slots, n, noted(got, &asked, before)); err != api.OK {
		t.Fatalf("Sort of %d = %d", n, err)
	}
	sortOf(want.slots, n, noted(want, &wantAsked, before))
	if !slices.Equal(asked, wantAsked) || len(asked) != len(gatesOf(n)) {
		t.Fatalf("of Sort of %d before is asked %v, want %v", n, asked, wantAsked)
	}
	checkTouched(t, got, pairsOf(n))
	checkSameLife(t, fmt.Sprintf("Sort of %d", n), got, want)
	checkContents(t, got, listSortOf(lists, n, before))
}

func settings() []setting {
	return []setting{{each: 1, window: 2}, {each: 3, window: 2}, {each: 5, window: 4}, {each: 100, window: 16}}
}

// P17.1: gate by gate, of records, by orders and by functions that are none; slots behind n stay.
func TestSortGateByGate(t *testing.T) {
	source := rand.New(rand.NewSource(4))
	for _, n := range []int{0, 1, 2, 4, 8, 16, 32} {
		for _, more := range []int{0, 1, 5} {
			for _, how := range settings() {
				for _, before := range append(orders(), words()...) {
					checkSort(t, drawnRecords(source, n+more, 3, 2), n, how, before)
				}
			}
		}
	}
}

// P17.1: what stands in slots need be no record: lists of a byte, of fewer than a head, and heads that are none.
func TestSortOfNoRecords(t *testing.T) {
	source := rand.New(rand.NewSource(5))
	for _, n := range []int{1, 2, 4, 8, 16} {
		for _, size := range []int{1, 2, 25, 26, 40} {
			for _, most := range []int{1, 2, 3, 256} {
				for _, before := range append(orders(), words()...) {
					checkSort(t, drawnLists(source, n+1, size, most), n, setting{each: 2, window: 2}, before)
				}
			}
		}
	}
}

// P17.1: before is asked with what stands at High and then with what stands at Low (of the second gate these are the slots 2 and 3); where it says yes the two change places.
func TestHighAndThenLow(t *testing.T) {
	for _, c := range []struct {
		word        uint64
		asked, want string
	}{{0, "ba cd ca db ba dc", "abcd"}, {yes, "ba cd db ca cd ab", "cdab"}} {
		b := newBench(t, [][]byte{[]byte("a"), []byte("b"), []byte("c"), []byte("d")}, setting{each: 4, window: 2})
		var asked []string
		if err := Sort(b.slots, 4, func(x, y []byte) uint64 {
			asked = append(asked, string(x)+string(y))
			return c.word
		}); err != api.OK {
			t.Fatalf("Sort = %d", err)
		}
		if got := strings.Join(asked, " "); got != c.asked {
			t.Fatalf("asked %s, want %s", got, c.asked)
		}
		if got := string(slices.Concat(b.contents(t)...)); got != c.want {
			t.Fatalf("the slots hold %s, want %s", got, c.want)
		}
	}
}

// P17.1: words that are no masks, bit by bit, in every byte: the lowest eight bits count.
func TestBitsChangePlaces(t *testing.T) {
	for word := range 256 {
		for _, upper := range []uint64{0, yes - 0xff, 1 << 63, 0x5a00} {
			b := newBench(t, [][]byte{{0x12, 0x00, 0xff}, {0x34, 0xff, 0x55}}, setting{each: 1, window: 2})
			if err := Sort(b.slots, 2, func(x, y []byte) uint64 { return uint64(word) | upper }); err != api.OK {
				t.Fatalf("Sort = %d", err)
			}
			m := byte(word)
			checkContents(t, b, [][]byte{
				{0x12&^m | 0x34&m, m, 0xff&^m | 0x55&m},
				{0x34&^m | 0x12&m, ^m, 0x55&^m | m},
			})
		}
	}
}

// P17.1: once a gate: what before answers may hang on when it is asked.
func TestAskedOnceAGate(t *testing.T) {
	source := rand.New(rand.NewSource(6))
	for _, n := range []int{2, 4, 8, 16, 32, 64} {
		for _, every := range []int{2, 3, 5} {
			counting := func() order {
				asked := 0
				return func(a, b []byte) uint64 {
					asked++
					return maskOf(asked%every == 0)
				}
			}
			lists := drawnLists(source, n, 2, 256)
			b := newBench(t, lists, setting{each: 4, window: 3})
			if err := Sort(b.slots, n, counting()); err != api.OK {
				t.Fatalf("Sort of %d = %d", n, err)
			}
			checkContents(t, b, listSortOf(lists, n, counting()))
		}
	}
}

// P17.2: Back is Sort by the Index, of records and of what is none, whether Indexes are alike or not.
func TestBack(t *testing.T) {
	source := rand.New(rand.NewSource(7))
	for _, n := range []int{0, 1, 2, 4, 8, 16, 32} {
		for _, how := range settings() {
			for _, lists := range [][][]byte{
				shuffled(source, drawnRecords(source, n+2, 2, 3)),
				drawnLists(source, n+1, 26, 2),
				drawnLists(source, n+1, 27, 3),
				drawnLists(source, n+3, 25, 256),
			} {
				got, want := newBench(t, lists, how), newBench(t, lists, how)
				if err := Back(got.slots, n); err != api.OK {
					t.Fatalf("Back of %d = %d", n, err)
				}
				sortOf(want.slots, n, record.ByIndex)
				checkTouched(t, got, pairsOf(n))
				checkSameLife(t, fmt.Sprintf("Back of %d", n), got, want)
				checkContents(t, got, listSortOf(lists, n, record.ByIndex))
			}
		}
	}
}

// checkOrdered is P17.5: behind a Sort, Sorted says yes, none stands ahead of the one ahead of it, and each list is there as often.
func checkOrdered(t *testing.T, b *bench, lists [][]byte, n int, before order) {
	t.Helper()
	if err := Sort(b.slots, n, before); err != api.OK {
		t.Fatalf("Sort of %d = %d", n, err)
	}
	checkAnswer(t, b.slots, n, before, true)
	got := b.contents(t)
	for i := 1; i < n; i++ {
		if before(got[i], got[i-1]) != 0 {
			t.Fatalf("behind Sort of %d the slot %d stands ahead of the one ahead of it", n, i)
		}
	}
	if !slices.EqualFunc(got[n:], lists[n:], bytes.Equal) {
		t.Fatalf("behind Sort of %d the slots behind are others", n)
	}
	want := slices.SortedFunc(slices.Values(lists[:n]), bytes.Compare)
	if have := slices.SortedFunc(slices.Values(got[:n]), bytes.Compare); !slices.EqualFunc(have, want, bytes.Equal) {
		t.Fatalf("behind Sort of %d the lists are others", n)
	}
}

// P17.5: Sort sorts, by whatever is an order.
func TestSortSorts(t *testing.T) {
	source := rand.New(rand.NewSource(8))
	for _, n := range []int{1, 2, 4, 8, 16, 32, 64, 128, 256} {
		for _, before := range orders() {
			for _, groups := range []int{1, 3, 2 * n} {
				lists := shuffled(source, drawnRecords(source, n+1, groups, 3))
				checkOrdered(t, newBench(t, lists, setting{each: 16, window: 8}), lists, n, before)
			}
			lists := drawnLists(source, n+1, 2, 3)
			checkOrdered(t, newBench(t, lists, setting{each: 16, window: 8}), lists, n, func(a, b []byte) uint64 {
				return maskOf(bytes.Compare(a, b) < 0)
			})
		}
	}
	lists := drawnLists(source, 2048, 2, 256)
	checkOrdered(t, newBench(t, lists, setting{each: 1000, window: 3}), lists, 2048, func(a, b []byte) uint64 {
		return maskOf(bytes.Compare(a, b) > 0)
	})
}

// P17.5: all lists of 0 and 1 of eight slots are sorted, so all of eight are, by whatever order.
func TestSortOfAllBits(t *testing.T) {
	for bits := range 256 {
		var lists [][]byte
		for i := range 8 {
			lists = append(lists, []byte{byte(bits >> i & 1)})
		}
		checkOrdered(t, newBench(t, lists, setting{each: 3, window: 3}), lists, 8, func(a, b []byte) uint64 { return maskOf(a[0] < b[0]) })
	}
}

// P17.5: where record i bears the Index i, Sort by whatever order and then Back leaves all as it was.
func TestThereAndBack(t *testing.T) {
	source := rand.New(rand.NewSource(9))
	for _, n := range []int{0, 1, 2, 4, 8, 16, 64, 256} {
		for _, before := range orders() {
			lists := drawnRecords(source, n+2, n/3+1, 5)
			b := newBench(t, lists, setting{each: 3, window: 2})
			if err := Sort(b.slots, n, before); err != api.OK {
				t.Fatalf("Sort of %d = %d", n, err)
			}
			if err := Back(b.slots, n); err != api.OK {
				t.Fatalf("Back of %d = %d", n, err)
			}
			checkContents(t, b, lists)
		}
	}
}

// P17.5, R8: what is touched, and what the host sees, hangs on n and on the call alone: not on what stands there, nor on what before says, nor on how many slots there are behind.
func TestWhatIsTouched(t *testing.T) {
	source := rand.New(rand.NewSource(10))
	for _, n := range []int{0, 1, 2, 4, 8, 16, 32} {
		how := setting{each: 2, window: 3}
		var first *bench
		for at, before := range append(orders(), words()...) {
			b := newBench(t, drawnRecords(source, n+2, 3, 4), how)
			sortErr := Sort(b.slots, n, before)
			_, sortedErr := Sorted(b.slots, n, before)
			backErr := Back(b.slots, n)
			if sortErr != api.OK || sortedErr != api.OK || backErr != api.OK {
				t.Fatalf("of %d: %d, %d, %d", n, sortErr, sortedErr, backErr)
			}
			checkTouched(t, b, slices.Concat(pairsOf(n), getsOf(n), pairsOf(n)))
			if at == 0 {
				first = b
			}
			if !slices.Equal(b.store.Log(), first.store.Log()) {
				t.Fatalf("of %d the host sees %v, and then %v", n, first.store.Log(), b.store.Log())
			}
		}
		longer := newBench(t, drawnRecords(source, n+40, 3, 4), how)
		if err := Sort(longer.slots, n, record.ByGroup); err != api.OK {
			t.Fatalf("Sort of %d = %d", n, err)
		}
		checkTouched(t, longer, pairsOf(n))
	}
}
