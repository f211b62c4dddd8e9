package sweep

import (
	"fmt"
	"slices"
	"testing"

	"tryst/api"
)

// answer is what a call answers, and what its step was handed.
type answer struct {
	census api.Census
	counts []int
	seen   []sight
	err    api.Errno
}

// deed is a call beside the model of it, and the accesses that it makes.
type deed struct {
	name        string
	call, model func(b *bench, n int) answer
	log         func(n int) []api.Access
}

// addUp makes a step by which all that comes behind hangs on what came ahead.
func addUp() func(list []byte) {
	sum := byte(0)
	return func(list []byte) {
		sum += list[len(list)-1]
		list[len(list)-1] = sum
	}
}

func addPairUp(x, y []byte) { x[0], y[len(y)-1] = x[0]+y[0], y[len(y)-1]+x[len(x)-1] }

func deeds() []deed {
	made := []deed{
		{"Neighbours",
			func(b *bench, n int) (a answer) {
				a.err = Neighbours(b.slots, n, notedPairs(b, &a.seen, addPairUp))
				return a
			},
			func(b *bench, n int) (a answer) {
				a.err = neighboursOf(b.slots, n, notedPairs(b, &a.seen, addPairUp))
				return a
			},
			neighboursLog},
		{"Ranks",
			func(b *bench, n int) answer { return answer{err: Ranks(b.slots, n)} },
			func(b *bench, n int) answer { return answer{err: ranksOf(b.slots, n)} },
			forwardLog},
		{"Census",
			func(b *bench, n int) (a answer) {
				a.census, a.err = Census(b.slots, n)
				return a
			},
			func(b *bench, n int) answer {
				lists, err := readOf(b.slots, n)
				return answer{census: censusOf(lists), err: err}
			},
			getsOf},
		{"Counts",
			func(b *bench, n int) (a answer) {
				a.counts, a.err = Counts(b.slots, n, 4)
				return a
			},
			func(b *bench, n int) answer {
				lists, err := readOf(b.slots, n)
				if err != api.OK {
					return answer{err: err}
				}
				return answer{counts: countsOf(lists, 4)}
			},
			getsOf},
	}
	for _, p := range passes() {
		made = append(made, deed{p.name,
			func(b *bench, n int) (a answer) {
				a.err = p.call(b.slots, n, noted(b, &a.seen, addUp()))
				return a
			},
			func(b *bench, n int) (a answer) {
				a.err = p.model(b.slots, n, noted(b, &a.seen, addUp()))
				return a
			},
			p.log})
	}
	return made
}

// checkTrouble holds a call to its model, on two benches on which the same befalls; it answers the call's error, and what the host had seen by then.
func checkTrouble(t *testing.T, what string, d deed, got, want *bench, n int) (api.Errno, []api.Touch) {
	t.Helper()
	one, other := d.call(got, n), d.model(want, n)
	if one.census != other.census || !slices.Equal(one.counts, other.counts) || one.err != other.err {
		t.Fatalf("%s = %v, %v, %d, want %v, %v, %d", what, one.census, one.counts, one.err, other.census, other.counts, other.err)
	}
	if !slices.Equal(one.seen, other.seen) {
		t.Fatalf("%s hands step %v, want %v", what, one.seen, other.seen)
	}
	seen := got.store.Log()
	checkSameLife(t, what, got, want)
	return one.err, seen
}

// someRecords have rows of several lengths among them, and each bears its place.
func someRecords() [][]byte {
	lists := letters("AABCCCaAB?")
	for i, list := range lists {
		lists[i] = withRank(list, 7*i+1)
	}
	return lists
}

// calmLife is a call to which nothing befalls.
func calmLife(t *testing.T, d deed, lists [][]byte, n, each int) *bench {
	t.Helper()
	calm := newBench(t, lists, setting{each: each, window: 2})
	if a := d.call(calm, n); a.err != api.OK {
		t.Fatalf("%s = %d", d.name, a.err)
	}
	return calm
}

// P19.6, R9: whatever befalls whichever operation: the error is answered at once, alone, and what was Set by then stays.
func TestTroubleAtEachOperation(t *testing.T) {
	for _, n := range []int{8, 10} {
		for _, each := range []int{1, 3} {
			for _, d := range deeds() {
				troubleAtEachOperation(t, someRecords(), n, each, d)
			}
		}
	}
}

func troubleAtEachOperation(t *testing.T, lists [][]byte, n, each int, d deed) {
	t.Helper()
	calm := calmLife(t, d, lists, n, each)
	touches := calm.store.Log()
	if len(touches) < calm.ops+3 {
		t.Fatalf("%s: too few operations: %d", d.name, len(touches)-calm.ops)
	}
	for at := calm.ops; at < len(touches); at++ {
		for _, fault := range []api.Fault{
			{At: at, Kind: api.FtBefore}, {At: at, Kind: api.FtBehind}, {At: at, Kind: api.FtTurn, Byte: 20, By: 1},
			{At: at, Kind: api.FtStale, Back: 1}, {At: at, Kind: api.FtMove, Page: (touches[at].Page + 1) % calm.store.Pages()},
		} {
			how := setting{each: each, window: 2, faults: []api.Fault{fault}}
			got, want := newBench(t, lists, how), newBench(t, lists, how)
			err, seen := checkTrouble(t, fmt.Sprintf("%s with %v", d.name, fault), d, got, want, n)
			if right := errorOf(fault, touches[at]); err != right {
				t.Fatalf("%s with %v = %d, want %d", d.name, fault, err, right)
			}
			// Up to the error, and up to the end if there is none, all goes as without a fault.
			if log := got.touched(); !slices.Equal(log, calm.touched()[:len(log)]) || !slices.Equal(seen, touches[:len(seen)]) {
				t.Fatalf("%s with %v touches %v, and the host sees %v", d.name, fault, log, seen)
			}
		}
	}
}

// errorOf is what comes of a fault that befalls such an operation.
func errorOf(fault api.Fault, touch api.Touch) api.Errno {
	switch {
	case fault.Kind == api.FtBefore || fault.Kind == api.FtBehind:
		return api.ErrDown
	case touch.Op == api.OpRead:
		return api.ErrIntegrity
	default:
		return api.OK
	}
}

// R3, P19.6: any error of a store is handed on as it is, at each operation, with nothing beside it.
func TestAnyErrorOfAStore(t *testing.T) {
	lists := someRecords()
	for _, d := range deeds() {
		calm := calmLife(t, d, lists, 9, 1)
		for _, errno := range []api.Errno{-1, api.ErrNil, api.ErrArg, api.ErrLength, api.ErrSpace, api.ErrDown, 777} {
			for at := calm.ops; at < calm.store.Ops(); at++ {
				got, want := newBench(t, lists, setting{each: 1, window: 2}), newBench(t, lists, setting{each: 1, window: 2})
				got.store.refuse[at], want.store.refuse[at] = errno, errno
				if err, _ := checkTrouble(t, d.name, d, got, want, 9); err != errno {
					t.Fatalf("%s = %d, want %d", d.name, err, errno)
				}
			}
		}
	}
}

// P19.6: with an error Census and Counts answer nothing else, whatever they had counted by then: half of a census would tell of rows.
func TestNothingBesideAnError(t *testing.T) {
	for at := range 9 {
		b := newBench(t, letters("ABABABAAA"), setting{each: 1, window: 2})
		b.store.refuse[b.store.deeds+at] = 777
		if census, err := Census(b.slots, 9); census != (api.Census{}) || err != 777 {
			t.Fatalf("Census = %v, %d", census, err)
		}
		b = newBench(t, letters("ABABABAAA"), setting{each: 1, window: 2})
		b.store.refuse[b.store.deeds+at] = 777
		if counts, err := Counts(b.slots, 9, 3); len(counts) != 0 || err != 777 {
			t.Fatalf("Counts = %v, %d", counts, err)
		}
	}
}

// P19.6: a pager that is dead already: one access, the first one, and no step; of none, and of what makes no access, OK.
func TestDeadAlready(t *testing.T) {
	for _, n := range []int{0, 1, 2, 8} {
		for _, d := range deeds() {
			b := newBench(t, someRecords(), setting{each: 1, window: 2})
			b.store.refuse[b.store.deeds] = 777
			if _, err := b.slots.Get(0); err != 777 {
				t.Fatalf("Get(0): %d", err)
			}
			b.mark()
			log, want := d.log(n), api.OK
			if len(log) > 0 {
				log, want = log[:1], 777
			}
			if a := d.call(b, n); a.err != want || len(a.seen) > 0 {
				t.Fatalf("%s of %d = %d, want %d", d.name, n, a.err, want)
			}
			checkTouched(t, b, log)
		}
	}
}

// P19.6: an error of which the pager does not die: a page that can't be saved, since it is too short. Nothing behind it is done. What only gets goes on.
func TestNothingMoreIsDone(t *testing.T) {
	lists := someRecords()
	for _, d := range deeds() {
		calm := calmLife(t, d, lists, 10, 1)
		wantErr := api.ErrLength
		if !slices.ContainsFunc(d.log(10), func(a api.Access) bool { return a.Kind != api.AxGet }) {
			wantErr = api.OK
		}
		for at, touch := range calm.store.Log() {
			if at < calm.ops || touch.Op != api.OpRead {
				continue
			}
			got, want := newBench(t, lists, setting{each: 1, window: 2}), newBench(t, lists, setting{each: 1, window: 2})
			got.store.forge[at], want.store.forge[at] = cut, cut
			if err, _ := checkTrouble(t, d.name, d, got, want, 10); err != wantErr || got.pager.Err() != api.OK {
				t.Fatalf("%s with the read %d cut = %d, and the pager is dead of %d", d.name, at, err, got.pager.Err())
			}
		}
	}
}

// P19.1, P19.3 to P19.5: what Get tells counts, also of a record that is not the one that was laid there, since who keeps the pages has the key.
func TestForgedRecords(t *testing.T) {
	lists := someRecords()
	for _, d := range deeds() {
		calm := calmLife(t, d, lists, 10, 1)
		for at, touch := range calm.store.Log() {
			if at < calm.ops || touch.Op != api.OpRead {
				continue
			}
			for name, forge := range map[string]func(text []byte) []byte{
				"live":      func(text []byte) []byte { text[0] = 1; return text },
				"dead":      func(text []byte) []byte { text[0] = 0; return text },
				"no record": func(text []byte) []byte { text[1] = 2; return text },
				"of A":      func(text []byte) []byte { group := groupOf(1); copy(text[10:], group[:]); return text },
			} {
				got, want := newBench(t, lists, setting{each: 1, window: 2}), newBench(t, lists, setting{each: 1, window: 2})
				got.store.forge[at], want.store.forge[at] = forge, forge
				if err, _ := checkTrouble(t, d.name+", "+name, d, got, want, 10); err != api.OK {
					t.Fatalf("%s with the read %d forged, %s = %d", d.name, at, name, err)
				}
			}
		}
	}
}

// P19.6: what was Set by then stays, seen in the slots themselves: of five slots the fourth can't be saved.
func TestWhatWasSetStays(t *testing.T) {
	const none = 0x7f6e5d4c
	b := newBench(t, letters("AAAAA"), setting{each: 1, window: 2})
	// For each of the pages 0 to 3 one that is held is written ahead of its read.
	b.store.forge[b.store.deeds+7] = cut
	if err := Ranks(b.slots, 5); err != api.ErrLength {
		t.Fatalf("Ranks = %d", err)
	}
	checkTouched(t, b, forwardLog(5)[:8])
	var ranks []int
	for _, list := range b.contents(t) {
		ranks = append(ranks, rankIn(list))
	}
	if !slices.Equal(ranks, []int{0, 1, 2, none, none}) {
		t.Fatalf("the Ranks are %v", ranks)
	}
}

// whenRead is the number of the operation since the mark that reads a page, of which there is one.
func whenRead(t *testing.T, b *bench, page int) int {
	t.Helper()
	var found []int
	for at, touch := range b.store.Log() {
		if at >= b.ops && touch.Op == api.OpRead && touch.Page == page {
			found = append(found, at)
		}
	}
	if len(found) != 1 {
		t.Fatalf("the page %d is read at %v", page, found)
	}
	return found[0]
}

// checkStopped: a pass of six slots ends with an error, behind so many calls of step and so many accesses.
func checkStopped(t *testing.T, p pass, b *bench, want api.Errno, calls, accesses int) {
	t.Helper()
	called := 0
	if err := p.call(b.slots, 6, func(list []byte) { called++ }); err != want || called != calls {
		t.Fatalf("%s = %d behind %d calls of step, want %d, %d", p.name, err, called, want, calls)
	}
	checkTouched(t, b, p.log(6)[:accesses])
}

// P19.6: of an error of Get step is not called for that slot, the third one; of an error of Set it was.
func TestStepAndErrors(t *testing.T) {
	lists, how := letters("ABCDEF"), setting{each: 1, window: 2}
	for _, p := range passes() {
		calm := newBench(t, lists, how)
		checkPass(t, p.call(calm.slots, 6, func(list []byte) {}))
		at := whenRead(t, calm, p.log(6)[4].Slot)
		refused := newBench(t, lists, how)
		refused.store.refuse[at] = 777
		checkStopped(t, p, refused, 777, 2, 5)
		short := newBench(t, lists, how)
		short.store.forge[at] = cut
		checkStopped(t, p, short, api.ErrLength, 3, 6)
	}
}
