package sweep

import (
	"slices"
	"testing"

	"tryst/api"
)

// The chapter's table of examples, row by row.

func checkRanks(t *testing.T, b *bench, n int, want ...int) {
	t.Helper()
	if err := Ranks(b.slots, n); err != api.OK {
		t.Fatalf("Ranks of %d = %d", n, err)
	}
	var got []int
	for _, list := range b.contents(t) {
		got = append(got, rankIn(list))
	}
	if !slices.Equal(got, want) {
		t.Fatalf("the Ranks are %v, want %v", got, want)
	}
}

func checkCensus(t *testing.T, b *bench, n int, want api.Census) {
	t.Helper()
	if got, err := Census(b.slots, n); got != want || err != api.OK {
		t.Fatalf("Census of %d = %v, %d, want %v", n, got, err, want)
	}
}

func checkCounts(t *testing.T, b *bench, n, groups int, want []int) {
	t.Helper()
	if got, err := Counts(b.slots, n, groups); !slices.Equal(got, want) || err != api.OK {
		t.Fatalf("Counts of %d, %d = %v, %d, want %v", n, groups, got, err, want)
	}
}

func checkPass(t *testing.T, err api.Errno) {
	t.Helper()
	if err != api.OK {
		t.Fatalf("the pass answers %d", err)
	}
}

func TestExampleOfRanks(t *testing.T) {
	for _, how := range settings() {
		checkRanks(t, newBench(t, letters("AABAAA"), how), 6, 0, 1, 0, 0, 1, 2)
		b := newBench(t, letters("AAbAAA"), how)
		checkRanks(t, b, 6, 0, 1, 0x7f6e5d4c, 0, 1, 2)
		checkCensus(t, b, 6, api.Census{Ones: 0, Twos: 1, More: 1})
	}
}

func TestExampleOfCensus(t *testing.T) {
	for _, how := range settings() {
		b := newBench(t, letters("AABAAA"), how)
		checkCensus(t, b, 6, api.Census{Ones: 1, Twos: 1, More: 1})
		checkCensus(t, b, 5, api.Census{Ones: 1, Twos: 2, More: 0})
		checkCensus(t, b, 0, api.Census{})
	}
}

func TestExampleOfCounts(t *testing.T) {
	for _, how := range settings() {
		b := newBench(t, letters("AABAAA"), how)
		checkCounts(t, b, 6, 3, []int{5, 1})
		checkCounts(t, b, 6, 4, []int{5, 1, 0})
		checkCounts(t, b, 6, 1, nil)
		if got, err := Counts(b.slots, 6, 0); len(got) != 0 || err != api.ErrArg {
			t.Fatalf("Counts of 6, 0 = %v, %d", got, err)
		}
	}
}

func TestExampleOfForward(t *testing.T) {
	for _, how := range settings() {
		b := newBench(t, letters("AABAAA"), how)
		calls := byte(0)
		checkPass(t, Forward(b.slots, 6, func(list []byte) {
			calls++
			list[len(list)-1] = calls
		}))
		checkTouched(t, b, []api.Access{
			{Kind: api.AxGet, Slot: 0}, {Kind: api.AxSet, Slot: 0}, {Kind: api.AxGet, Slot: 1}, {Kind: api.AxSet, Slot: 1},
			{Kind: api.AxGet, Slot: 2}, {Kind: api.AxSet, Slot: 2}, {Kind: api.AxGet, Slot: 3}, {Kind: api.AxSet, Slot: 3},
			{Kind: api.AxGet, Slot: 4}, {Kind: api.AxSet, Slot: 4}, {Kind: api.AxGet, Slot: 5}, {Kind: api.AxSet, Slot: 5},
		})
		want := letters("AABAAA")
		for i := range want {
			want[i][len(want[i])-1] = byte(i + 1)
		}
		checkContents(t, b, want)
	}
}

func TestExampleOfNeighbours(t *testing.T) {
	b := newBench(t, letters("AABAAA"), setting{each: 3, window: 2})
	checkPass(t, Neighbours(b.slots, 3, func(x, y []byte) {}))
	checkTouched(t, b, []api.Access{{Kind: api.AxPair, Slot: 0, Other: 1}, {Kind: api.AxPair, Slot: 1, Other: 2}})
	b.mark()
	checkPass(t, Neighbours(b.slots, 1, func(x, y []byte) { t.Error("step is called") }))
	checkUntouched(t, b)
}

func TestExamplesOfErrors(t *testing.T) {
	b := newBench(t, letters("AABAAA"), setting{each: 3, window: 2})
	for n, want := range map[int]api.Errno{7: api.ErrArg, -1: api.ErrArg} {
		if err := Ranks(b.slots, n); err != want {
			t.Errorf("Ranks of %d = %d, want %d", n, err, want)
		}
	}
	if err := Ranks(nil, 0); err != api.ErrNil {
		t.Errorf("Ranks of nil = %d", err)
	}
}
