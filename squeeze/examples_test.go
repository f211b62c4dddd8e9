package squeeze

import (
	"slices"
	"testing"

	"tryst/api"
)

// The chapter's table of examples, row by row.

// lettersOf are the letters and the Ranks of what stands in the slots.
func lettersOf(t *testing.T, b *bench) (string, []int) {
	t.Helper()
	text, ranks := "", []int(nil)
	for _, list := range b.contents(t) {
		text += string(list[api.HeadSize : api.HeadSize+1])
		ranks = append(ranks, rankIn(list))
	}
	return text, ranks
}

func checkLetters(t *testing.T, b *bench, want string, wantRanks ...int) {
	t.Helper()
	text, ranks := lettersOf(t, b)
	if text != want || !slices.Equal(ranks, wantRanks) {
		t.Errorf("the slots hold %s, %v, want %s, %v", text, ranks, want, wantRanks)
	}
}

func checkLive(t *testing.T, b *bench, n, want int) {
	t.Helper()
	if live, err := Squeeze(b.slots, n); live != want || err != api.OK {
		t.Fatalf("Squeeze of %d = %d, %d, want %d", n, live, err, want)
	}
}

func checkSpread(t *testing.T, b *bench, n int) {
	t.Helper()
	if err := Spread(b.slots, n); err != api.OK {
		t.Fatalf("Spread of %d = %d", n, err)
	}
}

func TestExamples(t *testing.T) {
	for _, how := range settings() {
		b := newBench(t, letters("aBcD"), how)
		checkLive(t, b, 4, 2)
		checkLetters(t, b, "BDca", 1, 2, 0, 0)
		checkSpread(t, b, 4)
		checkLetters(t, b, "aBcD", 0, 1, 0, 2)

		b = newBench(t, letters("AB"), how)
		checkLive(t, b, 2, 2)
		checkLetters(t, b, "AB", 0, 0)

		b = newBench(t, letters("ab"), how)
		checkLive(t, b, 2, 0)
		checkLetters(t, b, "ab", 0, 0)

		b = newBench(t, nil, how)
		checkLive(t, b, 0, 0)
		checkLetters(t, b, "")

		b = newBench(t, letters("abC"), how)
		checkLive(t, b, 3, 1)
		checkLetters(t, b, "Cba", 2, 0, 0)

		b = newBench(t, letters("aBCD"), how)
		checkLive(t, b, 3, 2)
		checkLetters(t, b, "BCaD", 1, 1, 0, 0x7f6e5d4c)
	}
}

func TestExampleOfAccesses(t *testing.T) {
	b := newBench(t, letters("aBc"), setting{each: 2, window: 2})
	checkLive(t, b, 3, 1)
	checkTouched(t, b, []api.Access{
		{Kind: api.AxGet, Slot: 0}, {Kind: api.AxSet, Slot: 0}, {Kind: api.AxGet, Slot: 1}, {Kind: api.AxSet, Slot: 1},
		{Kind: api.AxGet, Slot: 2}, {Kind: api.AxSet, Slot: 2},
		{Kind: api.AxPair, Slot: 1, Other: 0}, {Kind: api.AxPair, Slot: 2, Other: 1}, {Kind: api.AxPair, Slot: 2, Other: 0},
	})
	b.mark()
	checkSpread(t, b, 3)
	checkTouched(t, b, []api.Access{
		{Kind: api.AxPair, Slot: 2, Other: 0}, {Kind: api.AxPair, Slot: 2, Other: 1}, {Kind: api.AxPair, Slot: 1, Other: 0},
	})
}

func TestExamplesOfErrors(t *testing.T) {
	checkRefused(t, nil, 1, api.ErrNil)
	checkRefused(t, newBench(t, letters("aB"), setting{each: 2, window: 2}).slots, -1, api.ErrArg)
	checkRefused(t, emptyBench(t, 2, 25, setting{each: 2, window: 2}).slots, 2, api.ErrLength)
}
