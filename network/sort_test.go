package network

import (
	"cmp"
	"math/rand"
	"slices"
	"strings"
	"testing"

	"tryst/api"
)

// card has a mark by which no order of these tests looks: what is alike can be told apart by it.
type card struct{ rank, mark int }

func lowerRank(a, b card) bool { return a.rank < b.rank }

// cards of drawn ranks below so many.
func cards(source *rand.Rand, n, ranks int) []card {
	l := make([]card, n)
	for i := range l {
		l[i] = card{source.Intn(ranks), i}
	}
	return l
}

func byMark(a, b card) int { return cmp.Compare(a.mark, b.mark) }

// checkSort holds Sort to the model: the answer, and what before is asked, once a gate and in which order.
func checkSort[T comparable](t *testing.T, l []T, before func(a, b T) bool) []T {
	t.Helper()
	want, wantAsked := sortOf(l, before)
	var asked [][2]T
	got, err := Sort(l, func(a, b T) bool {
		asked = append(asked, [2]T{a, b})
		return before(a, b)
	})
	if err != api.OK || !slices.Equal(got, want) {
		t.Fatalf("Sort(%v) = %v, %d, want %v", l, got, err, want)
	}
	if !slices.Equal(asked, wantAsked) || len(asked) != Gates(len(l)) {
		t.Fatalf("of Sort(%v) before is asked %v, want %v", l, asked, wantAsked)
	}
	return got
}

// P16.5: before may be any function: an order, one the other way round, none at all.
func TestSortGateByGate(t *testing.T) {
	source := rand.New(rand.NewSource(16))
	orders := []func(a, b card) bool{
		lowerRank,
		func(a, b card) bool { return a.rank > b.rank },
		func(a, b card) bool { return a.rank <= b.rank },
		func(a, b card) bool { return true },
		func(a, b card) bool { return false },
		func(a, b card) bool { return (a.mark*7+b.mark*3+a.rank)%3 == 0 },
	}
	for _, n := range smallSizes() {
		for _, ranks := range []int{1, 2, 3, n, 10 * n} {
			for _, order := range orders {
				checkSort(t, cards(source, n, ranks), order)
			}
		}
	}
}

// P16.5: what before answers may hang on when it is asked; and each gate stands behind the one ahead of it.
func TestSortAsksOnceAGate(t *testing.T) {
	for _, n := range smallSizes() {
		l := make([]int, n)
		for i := range l {
			l[i] = i
		}
		for _, every := range []int{2, 3, 5} {
			asked, modelled := 0, 0
			want, _ := sortOf(l, func(a, b int) bool {
				modelled++
				return modelled%every == 0
			})
			got, err := Sort(l, func(a, b int) bool {
				asked++
				return asked%every == 0
			})
			if err != api.OK || asked != modelled || asked != Gates(n) || !slices.Equal(got, want) {
				t.Fatalf("Sort of %d = %v, %d, asked %d times, want %v, %d times", n, got, err, asked, want, modelled)
			}
		}
	}
}

// P16.5: of no elements none, of one that one; nothing is asked.
func TestSortOfFew(t *testing.T) {
	never := func(a, b string) bool {
		t.Error("before is asked")
		return true
	}
	for _, l := range [][]string{nil, {}, make([]string, 0, 3)} {
		if got, err := Sort(l, never); len(got) != 0 || err != api.OK {
			t.Errorf("Sort of none = %v, %d", got, err)
		}
	}
	if got, err := Sort([]string{"x"}, never); !slices.Equal(got, []string{"x"}) || err != api.OK {
		t.Errorf("Sort of one = %v, %d", got, err)
	}
}

// P16.5: a number that is no size; nothing is asked.
func TestSortRefused(t *testing.T) {
	never := func(a, b int) bool {
		t.Error("before is asked")
		return true
	}
	numbers := []int{511, 513, 1000, 32767, 32769, 65535, 65537, 98304, 131072}
	for n := 3; n < 300; n++ {
		if !slices.Contains(sizes(), n) {
			numbers = append(numbers, n)
		}
	}
	for _, n := range numbers {
		if got, err := Sort(make([]int, n), never); len(got) != 0 || err != api.ErrPower {
			t.Errorf("Sort of %d = %d elements, %d", n, len(got), err)
		}
	}
}

// P16.7: all lists of 0 and 1 of up to 16 elements are sorted, so all lists of that many are, by whatever order.
func TestSortOfAllBits(t *testing.T) {
	for _, n := range []int{1, 2, 4, 8, 16} {
		l := make([]uint8, n)
		for bits := range 1 << n {
			ones := 0
			for i := range l {
				l[i] = uint8(bits >> i & 1)
				ones += int(l[i])
			}
			got, err := Sort(l, func(a, b uint8) bool { return a < b })
			if err != api.OK || len(got) != n {
				t.Fatalf("Sort(%v) = %v, %d", l, got, err)
			}
			for i, x := range got {
				if (x == 1) != (i >= n-ones) {
					t.Fatalf("Sort(%v) = %v", l, got)
				}
			}
		}
	}
}

// checkSorted is P16.7 of cards: none is before the one ahead of it, and each is there as often.
func checkSorted(t *testing.T, l, got []card, before func(a, b card) bool) {
	t.Helper()
	for i := 1; i < len(got); i++ {
		if before(got[i], got[i-1]) {
			t.Fatalf("behind Sort of %d the card %d, %v, is before %v", len(l), i, got[i], got[i-1])
		}
	}
	l, got = slices.Clone(l), slices.Clone(got)
	slices.SortFunc(l, byMark)
	slices.SortFunc(got, byMark)
	if !slices.Equal(l, got) {
		t.Fatalf("behind Sort of %d the cards are others", len(l))
	}
}

// P16.7: drawn lists of every size, of few and of many ranks, in order, against it, and all alike.
func TestSortSorts(t *testing.T) {
	source := rand.New(rand.NewSource(17))
	orders := []func(a, b card) bool{
		lowerRank,
		func(a, b card) bool { return a.rank > b.rank },
		func(a, b card) bool { return a.rank%3 < b.rank%3 },
		func(a, b card) bool { return a.rank%2 < b.rank%2 || a.rank%2 == b.rank%2 && a.rank > b.rank },
		func(a, b card) bool { return false },
	}
	for _, n := range sizes() {
		for at, order := range orders {
			if n > 4096 && at > 0 {
				break
			}
			for _, ranks := range []int{1, 2, n/2 + 1, 4 * n} {
				l := cards(source, n, ranks)
				got, err := Sort(l, order)
				if err != api.OK {
					t.Fatalf("Sort of %d: %d", n, err)
				}
				checkSorted(t, l, got, order)
				again, err := Sort(got, func(a, b card) bool { return order(b, a) })
				if err != api.OK {
					t.Fatalf("Sort of %d: %d", n, err)
				}
				checkSorted(t, l, again, func(a, b card) bool { return order(b, a) })
			}
		}
	}
}

// P16.7: all orders of eight.
func TestSortOfAllPermutations(t *testing.T) {
	l := []int{0, 1, 2, 3, 4, 5, 6, 7}
	want := slices.Clone(l)
	var each func(from int)
	each = func(from int) {
		if from == len(l) {
			if got, err := Sort(l, func(a, b int) bool { return a < b }); err != api.OK || !slices.Equal(got, want) {
				t.Fatalf("Sort(%v) = %v, %d", l, got, err)
			}
			return
		}
		for i := from; i < len(l); i++ {
			l[from], l[i] = l[i], l[from]
			each(from + 1)
			l[from], l[i] = l[i], l[from]
		}
	}
	each(0)
}

// P16.5, P16.7: lists of anything.
func TestSortOfAnything(t *testing.T) {
	words := checkSort(t, []string{"d", "", "aa", "a"}, func(a, b string) bool { return a < b })
	if strings.Join(words, ",") != ",a,aa,d" {
		t.Errorf("words: %q", words)
	}
	checkSort(t, []any{3, "x", nil, 2.5}, func(a, b any) bool { return a == nil && b != nil })
	checkSort(t, []struct{}{{}, {}}, func(a, b struct{}) bool { return true })
	one, other := &card{rank: 2}, &card{rank: 1}
	if got := checkSort(t, []*card{one, other}, func(a, b *card) bool { return a.rank < b.rank }); got[0] != other || got[1] != one {
		t.Errorf("pointers are others")
	}
	lists, err := Sort([][]int{{2, 1}, {1}, {}, {0, 9}}, func(a, b []int) bool { return slices.Compare(a, b) < 0 })
	if err != api.OK || !slices.EqualFunc(lists, [][]int{{}, {0, 9}, {1}, {2, 1}}, slices.Equal[[]int]) {
		t.Errorf("lists: %v, %d", lists, err)
	}
}
