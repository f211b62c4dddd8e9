package slots

import (
	"bytes"
	"testing"

	"tryst/api"
)

// R5: what is laid into a slot stays as it is, with the room behind its end, and is not kept.
func TestRecordsStay(t *testing.T) {
	_, s := filled(t)
	room := []byte{1, 2, 3, 4, 5}
	for i := range 6 {
		if err := s.Set(i, room[:2]); err != api.OK {
			t.Fatalf("Set: %d", err)
		}
		s.Set(i, room[:3])
		s.Pair(i, (i+1)%6, nothing)
		s.Get(i)
	}
	if !bytes.Equal(room, []byte{1, 2, 3, 4, 5}) {
		t.Fatalf("what was handed in: %v", room)
	}
	overwrite(room)
	for i := range 6 {
		checkGet(t, s, i, 1, 2)
	}
}

// R5: what is answered is new memory each time.
func TestAnswersAreTheirOwn(t *testing.T) {
	_, s := filled(t)
	for range 3 {
		for i := range 6 {
			b, err := s.Get(i)
			if err != api.OK || !bytes.Equal(b, []byte{byte(i), byte(10 + i)}) {
				t.Fatalf("Get(%d) = %v, %d", i, b, err)
			}
			overwrite(b)
		}
	}
	log := s.Log()
	log = log[:cap(log)]
	for k := range log {
		log[k] = api.Access{Kind: 7, Slot: 8, Other: 9}
	}
	checkGet(t, s, 3, 3, 13)
	log = s.Log()
	for k, access := range log {
		want := api.Access{Slot: k % 6}
		if k == 18 {
			want.Slot = 3
		}
		if access != want {
			t.Fatalf("the access %d: %v, want %v", k, access, want)
		}
	}
	if len(log) != 19 {
		t.Fatalf("%d accesses", len(log))
	}
}

// P15.7: a log that was told does not grow, and the next one has all.
func TestLogGrows(t *testing.T) {
	_, s := filled(t)
	checkLog(t, s)
	checkGet(t, s, 1, 1, 11)
	first := s.Log()
	checkSet(t, s, api.OK, 2, 2, 12)
	checkPair(t, s, api.OK, 4, 3, nothing)
	if len(first) != 1 || first[0] != (api.Access{Slot: 1}) {
		t.Errorf("the log that was told first: %v", first)
	}
	for range 2 {
		checkLog(t, s, [3]int{0, 1, 0}, [3]int{1, 2, 0}, [3]int{2, 4, 3})
	}
}
