package network

import (
	"math/rand"
	"slices"
	"testing"
)

// item is live or dead; by its mark it can be told from all others.
type item struct {
	live bool
	mark int
}

func isLive(x item) bool { return x.live }

// itemsOf are n items, of which those are live that have a one in bits.
func itemsOf(n int, bits uint64) []item {
	l := make([]item, n)
	for i := range l {
		l[i] = item{bits>>i&1 == 1, i}
	}
	return l
}

// checkShift holds Shift to P16.6, with live asked once of each, in their order, and to P16.9.
func checkShift(t *testing.T, l []item) {
	t.Helper()
	var asked []item
	got := Shift(l, func(x item) bool {
		asked = append(asked, x)
		return x.live
	})
	if !slices.Equal(asked, l) {
		t.Fatalf("of Shift(%v) live is asked %v", l, asked)
	}
	if want := shiftOf(l, isLive); !slices.Equal(got, want) {
		t.Fatalf("Shift(%v) = %v, want %v", l, got, want)
	}
	checkTogether(t, l, got)
}

// checkTogether is P16.9: the live ones in their order, then the dead ones, each as often.
func checkTogether(t *testing.T, l, got []item) {
	t.Helper()
	var live, dead []item
	for _, x := range l {
		if x.live {
			live = append(live, x)
		} else {
			dead = append(dead, x)
		}
	}
	if len(got) != len(l) || !slices.Equal(got[:len(live)], live) {
		t.Fatalf("Shift of %d: the live ones are %v, want %v", len(l), got[:min(len(got), len(live))], live)
	}
	rest := slices.Clone(got[len(live):])
	slices.SortFunc(rest, func(a, b item) int { return a.mark - b.mark })
	if !slices.Equal(rest, dead) {
		t.Fatalf("Shift of %d: the dead ones are %v, want %v", len(l), rest, dead)
	}
}

// P16.6, P16.9: of all lists of up to 13 items.
func TestShiftOfAll(t *testing.T) {
	for n := range 14 {
		for bits := range uint64(1) << n {
			checkShift(t, itemsOf(n, bits))
		}
	}
}

// P16.6, P16.9: drawn lists of many, with few and with many live ones.
func TestShiftOfMany(t *testing.T) {
	source := rand.New(rand.NewSource(18))
	for range 300 {
		n, part := source.Intn(200), source.Intn(11)
		l := make([]item, n)
		for i := range l {
			l[i] = item{source.Intn(10) < part, i}
		}
		checkShift(t, l)
	}
}

// P16.6, P16.9: as many as there may be; the way to go has up to 16 bits.
func TestShiftOfMostPages(t *testing.T) {
	source := rand.New(rand.NewSource(19))
	for _, n := range []int{1000, 32768, 32769, 65535, 65536} {
		for part := range 5 {
			l := make([]item, n)
			for i := range l {
				l[i] = item{source.Intn(4) < part, i}
			}
			checkTogether(t, l, Shift(l, isLive))
		}
		l := make([]item, n)
		for i := range l {
			l[i].mark = i
		}
		l[n-1].live = true
		checkTogether(t, l, Shift(l, isLive))
	}
}

// P16.6: where all are live, or all dead, none has a way to go.
func TestShiftOfAllLiveAllDead(t *testing.T) {
	for n := range 70 {
		l := make([]int, n)
		for i := range l {
			l[i] = i
		}
		for _, answer := range []bool{true, false} {
			asked := 0
			got := Shift(l, func(int) bool {
				asked++
				return answer
			})
			if !slices.Equal(got, l) || asked != n {
				t.Fatalf("Shift of %d, live says %v: %v, asked %d times", n, answer, got, asked)
			}
		}
	}
}

// P16.6: of none there is none, and of more than MaxPages likewise; live is not asked.
func TestShiftOfNoneAndOfTooMany(t *testing.T) {
	never := func(int) bool {
		t.Error("live is asked")
		return true
	}
	for _, l := range [][]int{nil, {}, make([]int, 0, 5), make([]int, 65537), make([]int, 65538), make([]int, 131072)} {
		if got := Shift(l, never); len(got) != 0 {
			t.Errorf("Shift of %d has %d elements", len(l), len(got))
		}
	}
}

// P16.6: who is live is told once: what live would say later, or of the same element elsewhere, counts for nothing.
func TestLiveIsTaken(t *testing.T) {
	asked := 0
	got := Shift([]string{"x", "x", "x", "x", "x"}, func(string) bool {
		asked++
		return asked%2 == 0
	})
	if len(got) != 5 || asked != 5 {
		t.Errorf("Shift = %v, asked %d times", got, asked)
	}
	turns := []bool{false, true, false, false, true, true}
	at := 0
	letters := Shift([]byte("uvwxyz"), func(byte) bool {
		at++
		return turns[at-1]
	})
	want := shiftOf([]byte("uvwxyz"), func(b byte) bool { return turns[b-'u'] })
	if string(letters) != string(want) || string(letters[:3]) != "vyz" {
		t.Errorf("Shift = %s, want %s", letters, want)
	}
}
