package network

import (
	"slices"
	"testing"

	"tryst/api"
)

func below(a, b int) bool { return a < b }

func odd(x int) bool { return x%2 == 1 }

// withRoom has room behind its end, in which 99 stands.
func withRoom(l ...int) []int {
	return append(slices.Clone(l), 99, 99, 99, 99)[:len(l)]
}

func checkRoom(t *testing.T, l []int, want ...int) {
	t.Helper()
	if !slices.Equal(l, want) || !slices.Equal(l[len(l):len(l)+4], []int{99, 99, 99, 99}) {
		t.Fatalf("what was handed in is %v", l[:len(l)+4])
	}
}

// overwrite goes up to the end of the room that a list has.
func overwrite(l []int) {
	l = l[:cap(l)]
	for i := range l {
		l[i] = -7
	}
}

// R5: lists that are sorted and shifted stay, with the room behind their ends.
func TestListsStay(t *testing.T) {
	for _, want := range [][]int{{}, {5}, {9, 2}, {4, 3, 2, 1}, {8, 7, 6, 5, 4, 3, 2, 1}, {2, 4, 1}} {
		l := withRoom(want...)
		Sort(l, below)
		checkRoom(t, l, want...)
		Shift(l, odd)
		checkRoom(t, l, want...)
	}
}

// R5: what is answered is neither what was handed in nor another answer.
func TestAnswersAreTheirOwn(t *testing.T) {
	for _, l := range [][]int{{}, {5}, {9, 2}, {1, 2}, {1, 3, 5, 7}, {2, 4, 6, 8}, {8, 7, 6, 5, 4, 3, 2, 1}} {
		given := withRoom(l...)
		sorted, err := Sort(given, below)
		again, errAgain := Sort(given, below)
		if err != api.OK || errAgain != api.OK {
			t.Fatalf("Sort(%v): %d, %d", l, err, errAgain)
		}
		shifted, shiftedAgain := Shift(given, odd), Shift(given, odd)
		wantSorted, wantShifted := slices.Clone(again), slices.Clone(shiftedAgain)
		overwrite(sorted)
		overwrite(shifted)
		checkRoom(t, given, l...)
		if !slices.Equal(again, wantSorted) || !slices.Equal(shiftedAgain, wantShifted) {
			t.Fatalf("of %v the second answers are %v, %v", l, again, shiftedAgain)
		}
		if third, _ := Sort(given, below); !slices.Equal(third, wantSorted) || !slices.Equal(Shift(given, odd), wantShifted) {
			t.Fatalf("of %v, asked again: %v", l, third)
		}
	}
}

// R5: nothing of what is handed in is kept: written over behind the call, it changes no answer.
func TestNothingIsKept(t *testing.T) {
	l := withRoom(4, 3, 2, 1)
	sorted, _ := Sort(l, below)
	shifted := Shift(l, odd)
	overwrite(l)
	if !slices.Equal(sorted, []int{1, 2, 3, 4}) || !slices.Equal(shifted[:2], []int{3, 1}) {
		t.Errorf("written over behind the calls: %v, %v", sorted, shifted)
	}
}

// R6: a list that is written over from within, by who is asked, is sorted and shifted as it was when the call began.
func TestWrittenOverFromWithin(t *testing.T) {
	l := []int{4, 3, 2, 1}
	sorted, err := Sort(l, func(a, b int) bool {
		overwrite(l)
		return a < b
	})
	if err != api.OK || !slices.Equal(sorted, []int{1, 2, 3, 4}) {
		t.Errorf("Sort = %v, %d", sorted, err)
	}
	l = []int{4, 3, 2, 1}
	shifted := Shift(l, func(x int) bool {
		overwrite(l)
		return odd(x)
	})
	if want := shiftOf([]int{4, 3, 2, 1}, odd); !slices.Equal(shifted, want) {
		t.Errorf("Shift = %v, want %v", shifted, want)
	}
}

// R6: calls within calls, of the same list, know nothing of one another.
func TestCallsWithinCalls(t *testing.T) {
	l := []int{4, 3, 2, 1}
	sorted, err := Sort(l, func(a, b int) bool {
		inner, innerErr := Sort(l, below)
		if innerErr != api.OK || !slices.Equal(inner, []int{1, 2, 3, 4}) || !slices.Equal(Shift(l, odd), shiftOf(l, odd)) {
			t.Errorf("within: %v, %d", inner, innerErr)
		}
		return a < b
	})
	if err != api.OK || !slices.Equal(sorted, []int{1, 2, 3, 4}) {
		t.Errorf("Sort = %v, %d", sorted, err)
	}
}
