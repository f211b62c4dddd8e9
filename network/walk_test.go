package network

import (
	"iter"
	"slices"
	"testing"

	"tryst/api"
)

// How iterators are gone through, of gates and of hops alike.

// checkWalks goes through seq wholly, in part and within itself; want is what it gives.
func checkWalks[T comparable](t *testing.T, what string, seq iter.Seq[T], want []T) {
	t.Helper()
	for range 3 {
		if got := slices.Collect(seq); !slices.Equal(got, want) {
			t.Fatalf("%s gives %v, want %v", what, got, want)
		}
	}
	for cut := range want {
		checkLeft(t, what, seq, want, cut)
	}
	at := 0
	for x := range seq {
		if x != want[at] || at%7 == 0 && !slices.Equal(slices.Collect(seq), want) {
			t.Fatalf("%s, gone through within itself, is another at %d", what, at)
		}
		at++
	}
	if at != len(want) {
		t.Fatalf("%s, gone through within itself, gives %d", what, at)
	}
}

// checkLeft leaves seq at the place cut: nothing is given any more, and the next walk is a whole one.
func checkLeft[T comparable](t *testing.T, what string, seq iter.Seq[T], want []T, cut int) {
	t.Helper()
	var got []T
	for x := range seq {
		got = append(got, x)
		if len(got) > cut {
			break
		}
	}
	if !slices.Equal(got, want[:cut+1]) {
		t.Fatalf("%s, left behind %d, gives %v", what, cut, got)
	}
	given := 0
	seq(func(T) bool {
		given++
		return given <= cut
	})
	if given != cut+1 {
		t.Fatalf("%s, told to stop behind %d, gives %d", what, cut+1, given)
	}
	given = 0
	for range seq {
		given++
	}
	if given != len(want) {
		t.Fatalf("%s, left behind %d, then gives %d", what, cut, given)
	}
}

// P16.2: gates are gone through again and again, and left early.
func TestWalksOfGates(t *testing.T) {
	for _, n := range []int{1, 2, 4, 8, 16, 32} {
		checkWalks(t, "Bitonic", Bitonic(n), slices.Concat(gatesOf(n)...))
	}
	checkWalks(t, "Bitonic(6)", Bitonic(6), []api.Gate{})
}

// P16.4: so are hops.
func TestWalksOfHops(t *testing.T) {
	for n := range 40 {
		checkWalks(t, "Hops", Hops(n), hopsOf(n))
	}
}

// Two iterators are two, gone through side by side: neither has a place that the other one moves.
func TestWalksSideBySide(t *testing.T) {
	gates, hops := slices.Concat(gatesOf(8)...), hopsOf(9)
	one, other := Bitonic(8), Bitonic(16)
	at := 0
	for g := range one {
		for range other {
			break
		}
		for h := range Hops(9) {
			if h != hops[0] {
				t.Fatalf("the first hop is %v", h)
			}
			break
		}
		if g != gates[at] {
			t.Fatalf("the gate %d is %v", at, g)
		}
		at++
	}
	if at != len(gates) {
		t.Fatalf("%d gates", at)
	}
}

// To make an iterator does nothing: the work is done by who goes through it.
func TestMadeAlone(t *testing.T) {
	var gates iter.Seq[api.Gate]
	var hops iter.Seq[api.Hop]
	allocs := testing.AllocsPerRun(100, func() {
		gates, hops = Bitonic(65536), Hops(65536)
	})
	if allocs > 4 || gates == nil || hops == nil {
		t.Errorf("to make two iterators takes %v pieces of memory", allocs)
	}
	for g := range gates {
		if g != (api.Gate{Low: 0, High: 1}) {
			t.Errorf("the first gate is %v", g)
		}
		break
	}
	for h := range hops {
		if h != (api.Hop{From: 1, To: 0}) {
			t.Errorf("the first hop is %v", h)
		}
		break
	}
}
