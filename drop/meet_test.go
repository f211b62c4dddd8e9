package drop

import (
	"testing"

	"tryst/api"
	"tryst/ladder"
)

func owns() []api.Key {
	return []api.Key{{}, {1, 2, 3}, drawnKey(1), drawnKey(2), ladder.Clamp(drawnKey(2)), counted(0xf0)}
}

// belowTop is the number 2^255 - 19 + n as a key, n at most 18: no reduced one.
func belowTop(n byte) (k api.Key) {
	for i := range k {
		k[i] = 0xff
	}
	k[0], k[31] = 0xed+n, 0x7f
	return k
}

func withTop(k api.Key) api.Key {
	k[31] |= 0x80
	return k
}

// weakKeys are those of chapter 9, P9.6, and the same with the highest bit set.
func weakKeys() []api.Key {
	one := api.Key{1}
	last := belowTop(0)
	last[0]--
	all := []api.Key{
		{}, one, last, belowTop(0), belowTop(1),
		api.Key(unhex("e0eb7a7c3b41b8ae1656e3faf19fc46ada098deb9c32b1fd866205165f49b800")),
		api.Key(unhex("5f9c95bca3508c24b1d0b1559c83ef5b04445cc4581c8e86d8224eddd09f1157")),
	}
	for _, k := range all {
		all = append(all, withTop(k))
	}
	return all
}

// P21.1
func TestMeet(t *testing.T) {
	for _, own := range owns() {
		others := []api.Key{publicOf(t, own), publicOf(t, drawnKey(3)), {9}, {2}, drawnKey(4), belowTop(2), belowTop(9), belowTop(18)}
		for _, other := range others {
			for _, key := range []api.Key{other, withTop(other)} {
				m, err := Meet(own, key, 7)
				checkMeeting(t, "Meet", m, err, meetingOf(t, own, key, 7))
			}
		}
		for _, round := range rounds() {
			m, err := Meet(own, others[1], round)
			checkMeeting(t, "Meet", m, err, meetingOf(t, own, others[1], round))
		}
	}
}

// P21.1
func TestMeetWeak(t *testing.T) {
	for _, own := range owns() {
		for _, other := range weakKeys() {
			for _, round := range []uint64{0, 1, 1<<64 - 1} {
				if m, err := Meet(own, other, round); err != api.ErrWeak || m != (api.Meeting{}) {
					t.Fatalf("Meet(%x, %x, %d) = %x, %d", own, other, round, m, err)
				}
			}
		}
	}
}

// P21.1: of one secret are keys that are written otherwise; what the other one says is under another key all the same.
func TestAllBytesOfOtherCount(t *testing.T) {
	own := drawnKey(5)
	b := ladder.Base(drawnKey(6))
	for _, c := range [][2]api.Key{{b, withTop(b)}, {{9}, belowTop(9)}, {{2}, belowTop(2)}, {{18}, belowTop(18)}, {{9}, withTop(belowTop(9))}} {
		m, n := metBy(t, own, c[0], 7), metBy(t, own, c[1], 7)
		if m.Drop != n.Drop || m.Mine != n.Mine {
			t.Errorf("of %x and %x: %x and %x", c[0], c[1], m, n)
		}
		if m.Theirs == n.Theirs {
			t.Errorf("%x and %x have one key, %x", c[0], c[1], m.Theirs)
		}
	}
}

// P21.1: what is clamped away of a private key does not count; all else does.
func TestBitsOfOwn(t *testing.T) {
	own, other := drawnKey(7), ladder.Base(drawnKey(8))
	m := metBy(t, own, other, 7)
	for bit := range 256 {
		k := own
		k[bit/8] ^= 1 << (bit % 8)
		n := metBy(t, k, other, 7)
		clamped := ladder.Clamp(k) == ladder.Clamp(own)
		if clamped != (n == m) || clamped != (n.Drop == m.Drop) || clamped != (n.Mine == m.Mine) || clamped != (n.Theirs == m.Theirs) {
			t.Fatalf("with the bit %d turned: %x, without %x", bit, n, m)
		}
	}
}

// P21.1: each bit of a round counts for all three.
func TestBitsOfRound(t *testing.T) {
	own, other := drawnKey(7), ladder.Base(drawnKey(8))
	met := map[api.Drop]uint64{}
	keys := map[api.Key]uint64{}
	all := rounds()
	for bit := range 64 {
		all = append(all, 5^1<<bit)
	}
	for _, round := range all {
		m := metBy(t, own, other, round)
		for _, k := range []api.Key{m.Mine, m.Theirs} {
			if at, ok := keys[k]; ok && at != round {
				t.Fatalf("in the rounds %d and %d there is one key, %x", at, round, k)
			}
			keys[k] = round
		}
		if at, ok := met[m.Drop]; ok && at != round {
			t.Fatalf("in the rounds %d and %d there is one dead drop, %x", at, round, m.Drop)
		}
		met[m.Drop] = round
	}
	if len(keys) != 2*len(met) {
		t.Errorf("%d keys of %d rounds", len(keys), len(met))
	}
}
