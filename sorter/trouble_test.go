package sorter

import (
	"fmt"
	"math/rand"
	"slices"
	"testing"

	"tryst/api"
	"tryst/record"
)

// deed is a call beside the model of it.
type deed struct {
	name        string
	call, model func(b *bench, n int, before order) (bool, api.Errno)
}

func deeds() []deed {
	return []deed{
		{"Sort",
			func(b *bench, n int, before order) (bool, api.Errno) { return false, Sort(b.slots, n, before) },
			func(b *bench, n int, before order) (bool, api.Errno) { return false, sortOf(b.slots, n, before) }},
		{"Back",
			func(b *bench, n int, _ order) (bool, api.Errno) { return false, Back(b.slots, n) },
			func(b *bench, n int, _ order) (bool, api.Errno) { return false, sortOf(b.slots, n, record.ByIndex) }},
		{"Sorted",
			func(b *bench, n int, before order) (bool, api.Errno) { return Sorted(b.slots, n, before) },
			func(b *bench, n int, before order) (bool, api.Errno) { return sortedOf(b.slots, n, before) }},
	}
}

// checkTrouble holds a call to its model, on two benches on which the same befalls; it answers the call's error, and what the host had seen by then.
func checkTrouble(t *testing.T, what string, d deed, got, want *bench, n int) (api.Errno, []api.Touch) {
	t.Helper()
	var asked, wantAsked []question
	answer, err := d.call(got, n, noted(got, &asked, record.ByGroup))
	wantAnswer, wantErr := d.model(want, n, noted(want, &wantAsked, record.ByGroup))
	if answer != wantAnswer || err != wantErr {
		t.Fatalf("%s = %v, %d, want %v, %d", what, answer, err, wantAnswer, wantErr)
	}
	if !slices.Equal(asked, wantAsked) {
		t.Fatalf("%s: before is asked %v, want %v", what, asked, wantAsked)
	}
	seen := got.store.Log()
	checkSameLife(t, what, got, want)
	return err, seen
}

// sortedRecords stand in their order by group, so that Sorted says yes of them.
func sortedRecords(n int) [][]byte {
	var lists [][]byte
	for i := range n {
		lists = append(lists, record.Make(api.Head{Live: 1, Index: uint32(i), Group: api.Drop{byte(i / 2)}}, []byte{byte(i)}))
	}
	return lists
}

// P17.4, R9: whatever befalls whichever operation: the error is answered at once, and what was done by then stays.
func TestTroubleAtEachOperation(t *testing.T) {
	source := rand.New(rand.NewSource(14))
	for _, lists := range [][][]byte{shuffled(source, drawnRecords(source, 8, 3, 1)), sortedRecords(8)} {
		for _, each := range []int{1, 3} {
			for _, d := range deeds() {
				troubleAtEachOperation(t, lists, each, d)
			}
		}
	}
}

func troubleAtEachOperation(t *testing.T, lists [][]byte, each int, d deed) {
	t.Helper()
	calm := newBench(t, lists, setting{each: each, window: 2})
	if _, err := d.call(calm, 8, record.ByGroup); err != api.OK {
		t.Fatalf("%s = %d", d.name, err)
	}
	touches := calm.store.Log()
	if len(touches) < calm.ops+3 {
		t.Fatalf("%s: too few operations: %d", d.name, len(touches)-calm.ops)
	}
	for at := calm.ops; at < len(touches); at++ {
		for _, fault := range []api.Fault{
			{At: at, Kind: api.FtBefore}, {At: at, Kind: api.FtBehind}, {At: at, Kind: api.FtTurn, Byte: 20, By: 1},
			{At: at, Kind: api.FtStale, Back: 1}, {At: at, Kind: api.FtMove, Page: (touches[at].Page + 1) % calm.store.Pages()},
		} {
			how := setting{each: each, window: 2, faults: []api.Fault{fault}}
			got, want := newBench(t, lists, how), newBench(t, lists, how)
			err, seen := checkTrouble(t, fmt.Sprintf("%s with %v", d.name, fault), d, got, want, 8)
			if right := errorOf(fault, touches[at]); err != right {
				t.Fatalf("%s with %v = %d, want %d", d.name, fault, err, right)
			}
			// Up to the error, and up to the end if there is none, all goes as without a fault.
			if log := got.touched(); !slices.Equal(log, calm.touched()[:len(log)]) || !slices.Equal(seen, touches[:len(seen)]) {
				t.Fatalf("%s with %v touches %v, and the host sees %v", d.name, fault, log, seen)
			}
		}
	}
}

// errorOf is what comes of a fault that befalls such an operation.
func errorOf(fault api.Fault, touch api.Touch) api.Errno {
	switch {
	case fault.Kind == api.FtBefore || fault.Kind == api.FtBehind:
		return api.ErrDown
	case touch.Op == api.OpRead:
		return api.ErrIntegrity
	default:
		return api.OK
	}
}

// P17.4, R3: any error of a store is handed on as it is; Sorted says no beside it, though all was in order by then.
func TestAnyErrorOfAStore(t *testing.T) {
	lists := sortedRecords(8)
	for _, errno := range []api.Errno{-1, api.ErrNil, api.ErrArg, api.ErrSpace, api.ErrDown, api.ErrPower, 777} {
		for _, d := range deeds() {
			got, want := newBench(t, lists, setting{each: 1, window: 2}), newBench(t, lists, setting{each: 1, window: 2})
			at := got.store.deeds + 4
			got.store.refuse[at], want.store.refuse[at] = errno, errno
			if err, _ := checkTrouble(t, d.name, d, got, want, 8); err != errno {
				t.Fatalf("%s = %d, want %d", d.name, err, errno)
			}
		}
	}
}

// P17.4: a pager that is dead already: one access, that of the first gate or slot, and no question.
func TestDeadAlready(t *testing.T) {
	for _, n := range []int{0, 1, 2, 8} {
		for _, d := range deeds() {
			b := newBench(t, sortedRecords(8), setting{each: 1, window: 2})
			b.store.refuse[b.store.deeds] = 777
			if _, err := b.slots.Get(0); err != 777 {
				t.Fatalf("Get(0): %d", err)
			}
			b.accesses = len(b.slots.Log())
			log := pairsOf(n)
			if d.name == "Sorted" {
				log = getsOf(n)
			}
			wantErr := api.OK
			if len(log) > 0 {
				log, wantErr = log[:1], 777
			}
			answer, err := d.call(b, n, never(t))
			if err != wantErr || answer != (d.name == "Sorted" && n == 0) {
				t.Fatalf("%s of %d = %v, %d, want %d", d.name, n, answer, err, wantErr)
			}
			checkTouched(t, b, log)
		}
	}
}

// P17.4: an error of which the pager does not die: a page that can't be saved, since it is too short. No gate behind it is done.
func TestNothingMoreIsDone(t *testing.T) {
	lists := shuffled(rand.New(rand.NewSource(15)), drawnRecords(rand.New(rand.NewSource(16)), 8, 3, 1))
	calm := newBench(t, lists, setting{each: 1, window: 2})
	if err := Sort(calm.slots, 8, record.ByGroup); err != api.OK {
		t.Fatalf("Sort = %d", err)
	}
	reads := 0
	for at, touch := range calm.store.Log() {
		if at < calm.ops || touch.Op != api.OpRead {
			continue
		}
		reads++
		for _, d := range deeds()[:2] {
			got, want := newBench(t, lists, setting{each: 1, window: 2}), newBench(t, lists, setting{each: 1, window: 2})
			got.store.cut[at], want.store.cut[at] = true, true
			if err, _ := checkTrouble(t, d.name, d, got, want, 8); err != api.ErrLength || got.pager.Err() != api.OK {
				t.Fatalf("%s with the read %d cut = %d, and the pager is dead of %d", d.name, at, err, got.pager.Err())
			}
		}
	}
	if reads < 10 {
		t.Fatalf("%d reads", reads)
	}
}

// P17.4: what was exchanged by the first gates stays exchanged, seen in the slots themselves.
func TestWhatWasDoneStays(t *testing.T) {
	b := newBench(t, [][]byte{{1, 1}, {2, 2}, {3, 3}, {4, 4}}, setting{each: 1, window: 2})
	// The gates 0-1 and 3-2 write the pages 2, 3, 0, 1, and read 0, 1, 3, 2; the gate 0-2 writes the page 3, and what it reads of the page 0 is cut.
	b.store.cut[b.store.deeds+9] = true
	asked := 0
	err := Sort(b.slots, 4, func(x, y []byte) uint64 {
		asked++
		return yes
	})
	if err != api.ErrLength || asked != 3 {
		t.Fatalf("Sort = %d, asked %d times", err, asked)
	}
	checkTouched(t, b, pairsOf(4)[:3])
	checkContents(t, b, [][]byte{{2, 0}, {1, 1}, {4, 4}, {3, 3}})
}
