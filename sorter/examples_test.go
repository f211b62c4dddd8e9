package sorter

import (
	"slices"
	"testing"

	"tryst/api"
	"tryst/record"
	"tryst/slots"
)

// The chapter's table of examples, row by row, one behind the other.

func exampleRecords() [][]byte {
	return [][]byte{
		record.Make(api.Head{Live: 1, Group: api.Drop{2}, Index: 0}, nil),
		record.Make(api.Head{Live: 1, Group: api.Drop{1}, Index: 1}, nil),
		record.Make(api.Head{Index: 2}, nil),
		record.Make(api.Head{Live: 1, Group: api.Drop{1}, Index: 3}, nil),
	}
}

func checkIndexes(t *testing.T, b *bench, want ...int) {
	t.Helper()
	if got := indexesOf(t, b.contents(t)); !slices.Equal(got, want) {
		t.Errorf("the Indexes are %v, want %v", got, want)
	}
}

func checkAnswer(t *testing.T, s *slots.Slots, n int, before order, want bool) {
	t.Helper()
	if got, err := Sorted(s, n, before); got != want || err != api.OK {
		t.Errorf("Sorted(s, %d, ..) = %v, %d, want %v", n, got, err, want)
	}
}

func TestExamples(t *testing.T) {
	b := newBench(t, exampleRecords(), setting{each: 2, window: 2})
	checkAnswer(t, b.slots, 4, record.ByGroup, false)
	checkAnswer(t, b.slots, 1, record.ByGroup, true)
	checkAnswer(t, b.slots, 0, record.ByGroup, true)

	b.accesses = len(b.slots.Log())
	if err := Sort(b.slots, 4, record.ByGroup); err != api.OK {
		t.Errorf("Sort(s, 4, record.ByGroup) = %d", err)
	}
	checkTouched(t, b, []api.Access{
		{Kind: api.AxPair, Slot: 0, Other: 1}, {Kind: api.AxPair, Slot: 3, Other: 2}, {Kind: api.AxPair, Slot: 0, Other: 2},
		{Kind: api.AxPair, Slot: 1, Other: 3}, {Kind: api.AxPair, Slot: 0, Other: 1}, {Kind: api.AxPair, Slot: 2, Other: 3},
	})
	checkIndexes(t, b, 1, 3, 0, 2)

	b.accesses = len(b.slots.Log())
	checkAnswer(t, b.slots, 4, record.ByGroup, true)
	checkTouched(t, b, []api.Access{{Kind: api.AxGet, Slot: 0}, {Kind: api.AxGet, Slot: 1}, {Kind: api.AxGet, Slot: 2}, {Kind: api.AxGet, Slot: 3}})

	if err := Back(b.slots, 4); err != api.OK {
		t.Errorf("Back(s, 4) = %d", err)
	}
	checkIndexes(t, b, 0, 1, 2, 3)
	if err := Sort(b.slots, 2, func(x, y []byte) uint64 { return yes }); err != api.OK {
		t.Errorf("Sort(s, 2, ..) = %d", err)
	}
	checkIndexes(t, b, 1, 0, 2, 3)
}

func TestExamplesOfErrors(t *testing.T) {
	b := newBench(t, exampleRecords(), setting{each: 2, window: 2})
	for _, c := range []struct {
		s   *slots.Slots
		n   int
		err api.Errno
	}{{b.slots, 3, api.ErrPower}, {b.slots, 5, api.ErrArg}, {b.slots, -1, api.ErrArg}, {nil, 3, api.ErrNil}, {b.slots, 0, api.OK}} {
		if err := Sort(c.s, c.n, never(t)); err != c.err {
			t.Errorf("Sort of %d = %d, want %d", c.n, err, c.err)
		}
	}
	checkUntouched(t, b)
}
