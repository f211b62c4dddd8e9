package drop

import (
	"testing"

	"tryst/api"
	"tryst/ladder"
)

// P21.6
func TestFriendsMeet(t *testing.T) {
	for _, a := range owns() {
		for _, b := range owns() {
			for _, round := range []uint64{0, 1, 1<<64 - 1} {
				m, n := friends(t, a, b, round)
				if m.Drop != n.Drop || m.Mine != n.Theirs || m.Theirs != n.Mine {
					t.Fatalf("%x and %x in the round %d: %x and %x", a, b, round, m, n)
				}
				alike := ladder.Base(a) == ladder.Base(b)
				if alike != (m.Mine == m.Theirs) {
					t.Fatalf("%x and %x in the round %d: %x", a, b, round, m)
				}
			}
		}
	}
}

// P21.6
func TestFriendsMeetInAllRounds(t *testing.T) {
	for _, round := range rounds() {
		m, n := friends(t, drawnKey(1), drawnKey(2), round)
		if m.Drop != n.Drop || m.Mine != n.Theirs || m.Theirs != n.Mine {
			t.Fatalf("in the round %d: %x and %x", round, m, n)
		}
	}
}

// P21.6: what the one boxes the other one unboxes, whoever begins, and whether they are one or two.
func TestFriendsTalk(t *testing.T) {
	for _, c := range [][2]api.Key{{drawnKey(1), drawnKey(2)}, {drawnKey(3), drawnKey(3)}, {{}, drawnKey(4)}} {
		for _, round := range []uint64{0, 1, 7, 1<<64 - 1} {
			m, n := friends(t, c[0], c[1], round)
			for _, size := range []int{32, 33, 100, 274, 275, 511, 512} {
				for _, text := range textsFor(size) {
					checkSaid(t, m, n, round, size, text)
					checkSaid(t, n, m, round, size, text)
				}
			}
		}
	}
}

// P21.6, P21.7: of every length for which there is room.
func TestTextsOfAllLengths(t *testing.T) {
	m, n := friends(t, drawnKey(1), drawnKey(2), 7)
	for size := 32; size <= 512; size++ {
		checkSaid(t, m, n, 7, size, drawn(size, size-18))
		checkSaid(t, n, m, 7, size, drawn(size, (size-18)/2))
		checkSaid(t, m, n, 7, size, nil)
	}
	for k := range 494 + 1 {
		checkSaid(t, m, n, 7, 512, drawn(k, k))
	}
}

func checkSaid(t *testing.T, from, to api.Meeting, round uint64, size int, text []byte) {
	t.Helper()
	box := boxed(t, from, round, size, text)
	heard, err := Unbox(to, round, box)
	checkBytes(t, "Unbox of what was boxed", heard, err, text)
	again, err := Box(api.Meeting{Mine: to.Theirs}, round, len(box), heard)
	checkBytes(t, "Box of what was unboxed", again, err, box)
}

// P21.6: somebody else, and one who faces somebody else, has another dead drop, and opens nothing.
func TestOthersDoNotMeet(t *testing.T) {
	a, b, c := drawnKey(1), drawnKey(2), drawnKey(3)
	m, n := friends(t, a, b, 7)
	box := boxed(t, m, 7, 32, []byte("hello"))
	for _, pair := range [][2]api.Key{{c, a}, {c, b}, {a, c}, {b, c}, {a, a}, {b, b}} {
		o := metBy(t, pair[0], ladder.Base(pair[1]), 7)
		if o.Drop == m.Drop || o.Mine == m.Mine || o.Theirs == m.Mine || o.Mine == n.Mine || o.Theirs == n.Mine {
			t.Errorf("%x shares with %x", o, m)
		}
		text, err := Unbox(o, 7, box)
		checkRefused(t, "Unbox by another one", text, err, api.ErrTag)
	}
}
