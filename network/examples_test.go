package network

import (
	"slices"
	"testing"

	"tryst/api"
)

// The chapter's table of examples, row by row.

func TestExamplesOfSizes(t *testing.T) {
	for _, c := range [][2]int{{0, 0}, {1, 1}, {5, 8}, {8, 8}, {65536, 65536}, {65537, 0}} {
		if got := Pad(c[0]); got != c[1] {
			t.Errorf("Pad(%d) = %d, want %d", c[0], got, c[1])
		}
	}
	for _, c := range [][2]int{{1, 0}, {2, 1}, {4, 6}, {8, 24}, {6, 0}} {
		if got := Gates(c[0]); got != c[1] {
			t.Errorf("Gates(%d) = %d, want %d", c[0], got, c[1])
		}
	}
}

func TestExamplesOfGates(t *testing.T) {
	if got := slices.Collect(Bitonic(2)); !slices.Equal(got, []api.Gate{{Low: 0, High: 1}}) {
		t.Errorf("Bitonic(2) = %v", got)
	}
	rows := [][]api.Gate{
		{{Low: 0, High: 1}, {Low: 3, High: 2}},
		{{Low: 0, High: 2}, {Low: 1, High: 3}},
		{{Low: 0, High: 1}, {Low: 2, High: 3}},
	}
	if got := slices.Collect(Bitonic(4)); !slices.Equal(got, slices.Concat(rows...)) {
		t.Errorf("Bitonic(4) = %v", got)
	}
	if got := Layers(4); !slices.EqualFunc(got, rows, slices.Equal[[]api.Gate]) {
		t.Errorf("Layers(4) = %v", got)
	}
}

func TestExamplesOfHops(t *testing.T) {
	want := []api.Hop{{From: 1, To: 0}, {From: 2, To: 1}, {From: 3, To: 2}, {From: 2, To: 0}, {From: 3, To: 1}}
	if got := slices.Collect(Hops(4)); !slices.Equal(got, want) {
		t.Errorf("Hops(4) = %v", got)
	}
	if got := slices.Collect(Hops(1)); len(got) != 0 {
		t.Errorf("Hops(1) = %v", got)
	}
}

func TestExamplesOfSort(t *testing.T) {
	for _, c := range []struct {
		l, want []int
		err     api.Errno
	}{{[]int{3, 1, 2, 0}, []int{0, 1, 2, 3}, api.OK}, {[]int{3, 1, 2}, nil, api.ErrPower}, {nil, nil, api.OK}} {
		if got, err := Sort(c.l, below); !slices.Equal(got, c.want) || err != c.err {
			t.Errorf("Sort(%v) = %v, %d, want %v, %d", c.l, got, err, c.want, c.err)
		}
	}
}

func TestExampleOfShift(t *testing.T) {
	if got := Shift([]byte("aBcDe"), func(b byte) bool { return 'a' <= b && b <= 'z' }); string(got) != "aceDB" {
		t.Errorf("Shift(aBcDe) = %s", got)
	}
}
