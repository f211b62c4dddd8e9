package slots

import (
	"testing"

	"tryst/api"
	"tryst/page"
)

// errnos: a store may answer whatever it likes.
var errnos = []api.Errno{-1, api.ErrNil, api.ErrArg, api.ErrLength, api.ErrDown, api.ErrIntegrity, 777}

// notCalled is handed to a Pair of which f is not called.
func notCalled(t *testing.T) func(a, b []byte) {
	return func(a, b []byte) { t.Error("f is called") }
}

// checkDead: behind an error of the store all calls answer it, with their accesses written down; wrong arguments are told ahead of it, and are not.
func checkDead(t *testing.T, store *shelf, s *Slots, want api.Errno) {
	t.Helper()
	deeds, before := len(store.deeds), len(s.Log())
	checkGetRefused(t, s, 1, want)
	checkGetRefused(t, s, 6, api.ErrArg)
	checkSet(t, s, want, 2, 1, 2)
	checkSet(t, s, api.ErrLength, 2, 1)
	checkSet(t, s, api.ErrArg, -1, 1, 2)
	checkPair(t, s, want, 5, 0, notCalled(t))
	checkPair(t, s, api.ErrArg, 5, 5, notCalled(t))
	if len(store.deeds) != deeds {
		t.Fatalf("the store was asked for %v", store.deeds)
	}
	log := s.Log()[before:]
	if len(log) != 3 || log[0] != (api.Access{Kind: api.AxGet, Slot: 1}) || log[1] != (api.Access{Kind: api.AxSet, Slot: 2}) || log[2] != (api.Access{Kind: api.AxPair, Slot: 5, Other: 0}) {
		t.Fatalf("the log behind it: %v", log)
	}
}

// P15.6, R9: an error of Load, that of a read: nothing is saved, f is not called, the access stands in the log.
func TestReadRefused(t *testing.T) {
	for _, errno := range errnos {
		store, s := filled(t)
		store.refuse[3] = errno
		checkGetRefused(t, s, 3, errno)
		checkLog(t, s, [3]int{api.AxGet, 3})
		checkOrder(t, store, 101, 102, 103, 2)
		checkDead(t, store, s, errno)

		store, s = filled(t)
		store.refuse[3] = errno
		checkSet(t, s, errno, 3, 1, 2)
		checkLog(t, s, [3]int{api.AxSet, 3})
		checkOrder(t, store, 101, 102, 103, 2)
		checkDead(t, store, s, errno)

		store, s = filled(t)
		store.refuse[3] = errno
		checkPair(t, s, errno, 3, 0, notCalled(t))
		checkLog(t, s, [3]int{api.AxPair, 3, 0})
		checkOrder(t, store, 101, 102, 103, 2)
		checkDead(t, store, s, errno)
	}
}

// P15.6: an error of Load of the second page.
func TestSecondReadRefused(t *testing.T) {
	for _, errno := range errnos {
		store, s := filled(t)
		store.refuse[4] = errno
		checkPair(t, s, errno, 3, 0, notCalled(t))
		checkLog(t, s, [3]int{api.AxPair, 3, 0})
		checkOrder(t, store, 101, 102, 103, 2, 1)
		checkHeld(t, s.pager, 2)
		checkDead(t, store, s, errno)
	}
}

// P15.6: a page that is not the one that was written last.
func TestSpoiltPage(t *testing.T) {
	store, s := filled(t)
	store.lie[3] = func(right []byte) []byte {
		right[20] ^= 1
		return right
	}
	checkPair(t, s, api.ErrIntegrity, 4, 5, notCalled(t))
	checkLog(t, s, [3]int{api.AxPair, 4, 5})
	checkDead(t, store, s, api.ErrIntegrity)
}

// P15.6: an error of Load, that of a write that makes room.
func TestWriteRefused(t *testing.T) {
	store, s := filled(t)
	checkSet(t, s, api.OK, 0, 1, 1)
	checkSet(t, s, api.OK, 2, 2, 2)
	store.refuse[5] = api.ErrDown
	checkGetRefused(t, s, 4, api.ErrDown)
	checkOrder(t, store, 101, 102, 103, 1, 2, 101)
	checkLog(t, s, [3]int{api.AxSet, 0}, [3]int{api.AxSet, 2}, [3]int{api.AxGet, 4})
	checkDead(t, store, s, api.ErrDown)
}

// P15.6: an error of the first Save: f has the pages of both go, and room for the first one is refused.
func TestFirstSaveRefused(t *testing.T) {
	store, s := filled(t)
	store.refuse[5] = 777
	checkPair(t, s, 777, 0, 5, func(a, b []byte) {
		s.pager.Save(4, make([]byte, 5))
		s.pager.Load(0)
	})
	checkHeld(t, s.pager, 4, 0)
	checkOrder(t, store, 101, 102, 103, 1, 3, 104)
	checkLog(t, s, [3]int{api.AxPair, 0, 5})
	checkDead(t, store, s, 777)
}

// P15.6: an error of the second Save: the first page is saved by then.
func TestSecondSaveRefused(t *testing.T) {
	store, s := filled(t)
	store.refuse[5] = 777
	checkPair(t, s, 777, 0, 5, func(a, b []byte) {
		s.pager.Load(4)
		s.pager.Save(0, make([]byte, 5))
	})
	checkHeld(t, s.pager, 0, 1)
	checkOrder(t, store, 101, 102, 103, 1, 3, 100)
	checkLog(t, s, [3]int{api.AxPair, 0, 5})
	checkDead(t, store, s, 777)
}

// P15.6: of one page an error of Save, where f has spoilt the pager.
func TestSaveToADeadPager(t *testing.T) {
	store, s := filled(t)
	store.refuse[4] = api.ErrDown
	checkPair(t, s, api.ErrDown, 0, 1, func(a, b []byte) { s.pager.Load(2) })
	checkLog(t, s, [3]int{api.AxPair, 0, 1})
	checkDead(t, store, s, api.ErrDown)
}

// short lets the read with the number at bring a page of so many bytes, sealed as who has the key can: its text counts from 30 on.
func short(store *shelf, at, number, bytes int) {
	text := make([]byte, bytes)
	for k := range text {
		text[k] = byte(30 + k)
	}
	place := api.Place{Round: 9, Counter: uint32(number - 1), Page: uint32(number), Version: 1}
	store.lie[at] = func([]byte) []byte {
		box, _ := page.Seal(api.Key{1}, place, text)
		return box
	}
}

// R1: a page that is shorter or longer than it should be is no reason to panic: what is not there counts as 0.
func TestShortPages(t *testing.T) {
	for length := range 12 {
		if length == 5 {
			continue
		}
		store, s := filled(t)
		short(store, 3, 2, length)
		want := []byte{0, 0, 0, 0}
		for k := range min(length, 4) {
			want[k] = byte(30 + k)
		}
		checkGet(t, s, 2, want[:2]...)
		checkGet(t, s, 3, want[2:]...)
		checkPair(t, s, api.ErrLength, 2, 3, exchange)
		checkPair(t, s, api.ErrLength, 3, 0, exchange)
		checkSet(t, s, api.ErrLength, 3, 1, 2)
	}
}

// P15.6: where the first page can't be saved the second one is not, though the pager lives on.
func TestNothingMoreIsSaved(t *testing.T) {
	store, s := filled(t)
	short(store, 3, 2, 4)
	checkPair(t, s, api.ErrLength, 2, 0, exchange)
	checkGet(t, s, 0, 0, 10)
	checkGet(t, s, 2, 30, 31)
	s.pager.Flush()
	checkOrder(t, store, 101, 102, 103, 2, 1)

	store, s = filled(t)
	short(store, 4, 2, 4)
	checkPair(t, s, api.ErrLength, 0, 2, exchange)
	checkGet(t, s, 0, 30, 31)
	checkGet(t, s, 2, 30, 31)
	s.pager.Flush()
	checkOrder(t, store, 101, 102, 103, 1, 2, 101)
}
