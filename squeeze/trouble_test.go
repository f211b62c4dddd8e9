package squeeze

import (
	"fmt"
	"math/rand"
	"slices"
	"testing"

	"tryst/api"
)

// deed is a call beside the model of it, and the accesses that it makes.
type deed struct {
	name        string
	call, model func(b *bench, n int) (int, api.Errno)
	log         func(n int) []api.Access
}

func deeds() []deed {
	return []deed{
		{"Squeeze",
			func(b *bench, n int) (int, api.Errno) { return Squeeze(b.slots, n) },
			func(b *bench, n int) (int, api.Errno) { return squeezeOf(b.slots, n) },
			squeezeLog},
		{"Spread",
			func(b *bench, n int) (int, api.Errno) { return 0, Spread(b.slots, n) },
			func(b *bench, n int) (int, api.Errno) { return 0, spreadOf(b.slots, n) },
			spreadLog},
	}
}

// checkTrouble holds a call to its model, on two benches on which the same befalls; it answers the call's error, and what the host had seen by then.
func checkTrouble(t *testing.T, what string, d deed, got, want *bench, n int) (api.Errno, []api.Touch) {
	t.Helper()
	live, err := d.call(got, n)
	wantLive, wantErr := d.model(want, n)
	if live != wantLive || err != wantErr {
		t.Fatalf("%s = %d, %d, want %d, %d", what, live, err, wantLive, wantErr)
	}
	seen := got.store.Log()
	checkSameLife(t, what, got, want)
	return err, seen
}

// goingRecords are such that both calls exchange some: live ones and dead ones, with low Ranks.
func goingRecords(n int) [][]byte {
	source := rand.New(rand.NewSource(15))
	return withLowRanks(source, drawnRecords(source, n, 60, 2), n)
}

// R9: whatever befalls whichever operation: the error is answered at once, and what was done by then stays.
func TestTroubleAtEachOperation(t *testing.T) {
	for _, n := range []int{7, 8} {
		for _, each := range []int{1, 3} {
			for _, d := range deeds() {
				troubleAtEachOperation(t, goingRecords(9), n, each, d)
			}
		}
	}
}

func troubleAtEachOperation(t *testing.T, lists [][]byte, n, each int, d deed) {
	t.Helper()
	calm := newBench(t, lists, setting{each: each, window: 2})
	if _, err := d.call(calm, n); err != api.OK {
		t.Fatalf("%s = %d", d.name, err)
	}
	touches := calm.store.Log()
	if len(touches) < calm.ops+10 {
		t.Fatalf("%s: too few operations: %d", d.name, len(touches)-calm.ops)
	}
	for at := calm.ops; at < len(touches); at++ {
		for _, fault := range []api.Fault{
			{At: at, Kind: api.FtBefore}, {At: at, Kind: api.FtBehind}, {At: at, Kind: api.FtTurn, Byte: 20, By: 1},
			{At: at, Kind: api.FtStale, Back: 1}, {At: at, Kind: api.FtMove, Page: (touches[at].Page + 1) % calm.store.Pages()},
		} {
			how := setting{each: each, window: 2, faults: []api.Fault{fault}}
			got, want := newBench(t, lists, how), newBench(t, lists, how)
			err, seen := checkTrouble(t, fmt.Sprintf("%s with %v", d.name, fault), d, got, want, n)
			if right := errorOf(fault, touches[at]); err != right {
				t.Fatalf("%s with %v = %d, want %d", d.name, fault, err, right)
			}
			// Up to the error, and up to the end if there is none, all goes as without a fault.
			if log := got.touched(); !slices.Equal(log, calm.touched()[:len(log)]) || !slices.Equal(seen, touches[:len(seen)]) {
				t.Fatalf("%s with %v touches %v, and the host sees %v", d.name, fault, log, seen)
			}
		}
	}
}

// errorOf is what comes of a fault that befalls such an operation.
func errorOf(fault api.Fault, touch api.Touch) api.Errno {
	switch {
	case fault.Kind == api.FtBefore || fault.Kind == api.FtBehind:
		return api.ErrDown
	case touch.Op == api.OpRead:
		return api.ErrIntegrity
	default:
		return api.OK
	}
}

// R3, R9: any error of a store is handed on as it is, at each operation; Squeeze counts none beside it.
func TestAnyErrorOfAStore(t *testing.T) {
	lists := goingRecords(6)
	for _, d := range deeds() {
		calm := newBench(t, lists, setting{each: 1, window: 2})
		if _, err := d.call(calm, 6); err != api.OK {
			t.Fatalf("%s = %d", d.name, err)
		}
		for _, errno := range []api.Errno{-1, api.ErrNil, api.ErrArg, api.ErrLength, api.ErrSpace, api.ErrDown, 777} {
			for at := calm.ops; at < calm.store.Ops(); at++ {
				got, want := newBench(t, lists, setting{each: 1, window: 2}), newBench(t, lists, setting{each: 1, window: 2})
				got.store.refuse[at], want.store.refuse[at] = errno, errno
				if err, _ := checkTrouble(t, d.name, d, got, want, 6); err != errno {
					t.Fatalf("%s = %d, want %d", d.name, err, errno)
				}
			}
		}
	}
}

// R9: a pager that is dead already: one access, the first one; of none, and of what makes no access, OK.
func TestDeadAlready(t *testing.T) {
	for _, n := range []int{0, 1, 2, 8} {
		for _, d := range deeds() {
			b := newBench(t, goingRecords(8), setting{each: 1, window: 2})
			b.store.refuse[b.store.deeds] = 777
			if _, err := b.slots.Get(0); err != 777 {
				t.Fatalf("Get(0): %d", err)
			}
			b.mark()
			log, wantErr := d.log(n), api.OK
			if len(log) > 0 {
				log, wantErr = log[:1], 777
			}
			if live, err := d.call(b, n); live != 0 || err != wantErr {
				t.Fatalf("%s of %d = %d, %d, want %d", d.name, n, live, err, wantErr)
			}
			checkTouched(t, b, log)
		}
	}
}

// R9: an error of which the pager does not die: a page that can't be saved, since it is too short. Nothing behind it is done.
func TestNothingMoreIsDone(t *testing.T) {
	lists := goingRecords(9)
	for _, d := range deeds() {
		calm := newBench(t, lists, setting{each: 1, window: 2})
		if _, err := d.call(calm, 9); err != api.OK {
			t.Fatalf("%s = %d", d.name, err)
		}
		reads := 0
		for at, touch := range calm.store.Log() {
			if at < calm.ops || touch.Op != api.OpRead {
				continue
			}
			reads++
			got, want := newBench(t, lists, setting{each: 1, window: 2}), newBench(t, lists, setting{each: 1, window: 2})
			got.store.forge[at], want.store.forge[at] = cut, cut
			if err, _ := checkTrouble(t, d.name, d, got, want, 9); err != api.ErrLength || got.pager.Err() != api.OK {
				t.Fatalf("%s with the read %d cut = %d, and the pager is dead of %d", d.name, at, err, got.pager.Err())
			}
		}
		if reads < 20 {
			t.Fatalf("%s: %d reads", d.name, reads)
		}
	}
}

// P18.1, P18.2: each hop asks what stands there when it comes to it: also of a record that is not the one that was laid there, since who keeps the pages has the key.
func TestForgedRecords(t *testing.T) {
	lists := goingRecords(9)
	for _, d := range deeds() {
		calm := newBench(t, lists, setting{each: 1, window: 2})
		if _, err := d.call(calm, 9); err != api.OK {
			t.Fatalf("%s = %d", d.name, err)
		}
		for at, touch := range calm.store.Log() {
			if at < calm.ops || touch.Op != api.OpRead {
				continue
			}
			for name, forge := range map[string]func(text []byte) []byte{
				"live":      func(text []byte) []byte { text[0] = 1; return text },
				"dead":      func(text []byte) []byte { text[0] = 0; return text },
				"no record": func(text []byte) []byte { text[1] = 2; return text },
				"all bits":  func(text []byte) []byte { text[0] = 1; return withRank(text, 0xffffffff) },
				"no bit":    func(text []byte) []byte { return withRank(text, 0) },
			} {
				got, want := newBench(t, lists, setting{each: 1, window: 2}), newBench(t, lists, setting{each: 1, window: 2})
				got.store.forge[at], want.store.forge[at] = forge, forge
				if err, _ := checkTrouble(t, d.name+", "+name, d, got, want, 9); err != api.OK {
					t.Fatalf("%s with the read %d forged, %s = %d", d.name, at, name, err)
				}
			}
		}
	}
}

// R9: what was done stays, seen in the slots themselves: the Ranks that were set, and the exchanges of the first hops.
func TestWhatWasDoneStays(t *testing.T) {
	b := newBench(t, letters("abC"), setting{each: 1, window: 2})
	// For the page 0 the page 1 is written, for 1 then 2; for 2 the page 0, and what is read of the page 2 is cut.
	b.store.forge[b.store.deeds+5] = cut
	if live, err := Squeeze(b.slots, 3); live != 0 || err != api.ErrLength {
		t.Fatalf("Squeeze = %d, %d", live, err)
	}
	checkTouched(t, b, squeezeLog(3)[:6])
	checkLetters(t, b, "abC", 0, 0, 0x7f6e5d4c)

	b = newBench(t, letters("aBcD"), setting{each: 1, window: 2})
	// The slots are measured with eight operations, the first two hops go with eight more; for the third hop the page 2 is written, and what is read of the page 3 is cut.
	b.store.forge[b.store.deeds+17] = cut
	if live, err := Squeeze(b.slots, 4); live != 0 || err != api.ErrLength {
		t.Fatalf("Squeeze = %d, %d", live, err)
	}
	checkTouched(t, b, squeezeLog(4)[:11])
	checkLetters(t, b, "BacD", 1, 0, 0, 2)
}
