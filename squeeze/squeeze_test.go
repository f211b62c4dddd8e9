package squeeze

import (
	"bytes"
	"fmt"
	"math/rand"
	"slices"
	"testing"

	"tryst/api"
	"tryst/record"
)

// lifeOfSqueeze holds Squeeze to the model, life by life: the answer, accesses, touches, contents.
func lifeOfSqueeze(t *testing.T, lists [][]byte, n int, how setting) {
	t.Helper()
	got, want := newBench(t, lists, how), newBench(t, lists, how)
	live, err := Squeeze(got.slots, n)
	wantLive, _ := squeezeOf(want.slots, n)
	if live != wantLive || err != api.OK {
		t.Fatalf("Squeeze of %d = %d, %d, want %d", n, live, err, wantLive)
	}
	checkTouched(t, got, squeezeLog(n))
	checkSameLife(t, fmt.Sprintf("Squeeze of %d", n), got, want)
	checkContents(t, got, last(squeezeStates(lists, n)))
}

// checkSqueezed is P18.3 of what stood there and of what stands there now: the live ones in their order, each with its distance, all else unchanged; behind them the dead ones, each once, with the Rank 0; and from n on what stood there.
func checkSqueezed(t *testing.T, got, lists [][]byte, n int) {
	t.Helper()
	var live, dead [][]byte
	for _, list := range lists[:n] {
		if isLive(list) {
			live = append(live, withRank(list, len(dead)))
		} else {
			dead = append(dead, withRank(list, 0))
		}
	}
	checkLists(t, "the live ones", got[:len(live)], live)
	behind := slices.SortedFunc(slices.Values(got[len(live):n]), bytes.Compare)
	slices.SortFunc(dead, bytes.Compare)
	checkLists(t, "the dead ones, sorted,", behind, dead)
	checkLists(t, "those that are not asked for", got[n:], lists[n:])
}

// numbers are powers of two and others, the edges of both among them.
func numbers() []int {
	return []int{0, 1, 2, 3, 4, 5, 6, 7, 8, 9, 12, 15, 16, 17, 23, 31, 32, 33}
}

// P18.1: step by step, of records with any head; slots behind n stay as they are.
func TestSqueezeStepByStep(t *testing.T) {
	source := rand.New(rand.NewSource(6))
	for _, n := range numbers() {
		for _, more := range []int{0, 1, 5} {
			for _, how := range settings() {
				for _, live := range []int{0, 10, 50, 90, 100} {
					lifeOfSqueeze(t, drawnRecords(source, n+more, live, 3), n, how)
				}
			}
		}
	}
}

// P18.1: what stands in a slot need be no record: then it is dead, and its bytes 6 to 9 become 0 all the same.
func TestSqueezeOfNoRecords(t *testing.T) {
	source := rand.New(rand.NewSource(7))
	for _, n := range numbers() {
		for _, size := range []int{26, 27, 40} {
			for _, most := range []int{2, 3, 256} {
				lifeOfSqueeze(t, drawnLists(source, n+1, size, most), n, setting{each: 2, window: 2})
			}
		}
	}
}

// headsThatAreNone have a Live or a Flag that no record has, beside all those that records have.
func headsThatAreNone() [][2]byte {
	var heads [][2]byte
	for _, live := range []byte{0, 1, 2, 3, 0x81, 0xff} {
		for _, flag := range []byte{0, 1, 2, 3, 0x80, 0xfe, 0xff} {
			heads = append(heads, [2]byte{live, flag})
		}
	}
	return heads
}

// P18.1: which ones are live, by Live and Flag: behind one dead one, a live one comes to the front with the Rank 1, any other stays with the Rank 0.
func TestWhoIsLive(t *testing.T) {
	for _, head := range headsThatAreNone() {
		dead := bytes.Repeat([]byte{0xa5}, 30)
		dead[0], dead[1] = 0, 0
		asked := bytes.Repeat([]byte{0x5a}, 30)
		asked[0], asked[1] = head[0], head[1]
		b := newBench(t, [][]byte{dead, asked}, setting{each: 1, window: 2})
		if head[0] == 1 && head[1] <= 1 {
			checkLive(t, b, 2, 1)
			checkContents(t, b, [][]byte{withRank(asked, 1), withRank(dead, 0)})
		} else {
			checkLive(t, b, 2, 0)
			checkContents(t, b, [][]byte{withRank(dead, 0), withRank(asked, 0)})
		}
	}
}

// P18.1: a Rank is the bytes 6 to 9, the lowest first; all others stay. Of 300 dead ones ahead it is 44 1 0 0.
func TestRankIsFourBytes(t *testing.T) {
	lists := make([][]byte, 302)
	for i := range lists {
		lists[i] = bytes.Repeat([]byte{0xee}, 28)
		lists[i][0], lists[i][1], lists[i][27] = 0, 1, byte(i)
	}
	lists[0][0], lists[301][0] = 1, 1
	b := newBench(t, lists, setting{each: 20, window: 4})
	checkLive(t, b, 302, 2)
	got := b.contents(t)
	first := slices.Concat([]byte{1, 1, 0xee, 0xee, 0xee, 0xee, 0, 0, 0, 0}, bytes.Repeat([]byte{0xee}, 17), []byte{0})
	second := slices.Concat([]byte{1, 1, 0xee, 0xee, 0xee, 0xee, 44, 1, 0, 0}, bytes.Repeat([]byte{0xee}, 17), []byte{byte(301 % 256)})
	if !bytes.Equal(got[0], first) || !bytes.Equal(got[1], second) {
		t.Fatalf("in front stand %v, %v", got[0], got[1])
	}
	checkSqueezed(t, got, lists, 302)
}

// P18.3, P18.4, P18.5: of every pattern of live and dead ones: the live ones come to the front, and all come back.
func TestEveryPattern(t *testing.T) {
	for n := range 11 {
		for bits := range 1 << n {
			lists := letters(pattern(n, bits))
			b := newBench(t, lists, setting{each: 100, window: 2})
			want, live := measuredOf(lists, n)
			checkLive(t, b, n, live)
			checkTouched(t, b, squeezeLog(n))
			checkSqueezed(t, b.contents(t), lists, n)
			b.mark()
			checkSpread(t, b, n)
			checkTouched(t, b, spreadLog(n))
			checkContents(t, b, want)
		}
	}
}

// P18.3, P18.4: of many, powers of two and others, few of them live, many, all, none; records that are alike among them.
func TestManyThereAndBack(t *testing.T) {
	source := rand.New(rand.NewSource(8))
	for _, n := range []int{16, 17, 63, 64, 65, 100, 255, 256, 257, 600, 1000} {
		for _, live := range []int{0, 3, 30, 70, 97, 100} {
			lists := drawnRecords(source, n+2, live, 1)
			for range n / 4 {
				lists[source.Intn(n)] = lists[source.Intn(n)]
			}
			b := newBench(t, lists, setting{each: 30, window: 5})
			want, count := measuredOf(lists, n)
			checkLive(t, b, n, count)
			checkSqueezed(t, b.contents(t), lists, n)
			checkSpread(t, b, n)
			checkContents(t, b, want)
		}
	}
}

// P18.3, P18.4: what is no record goes with the dead ones, and comes back to its slot.
func TestNoRecordsThereAndBack(t *testing.T) {
	source := rand.New(rand.NewSource(9))
	for _, n := range []int{1, 2, 3, 7, 20, 64, 130} {
		for _, most := range []int{2, 3, 256} {
			lists := drawnLists(source, n+1, 29, most)
			b := newBench(t, lists, setting{each: 6, window: 3})
			want, count := measuredOf(lists, n)
			checkLive(t, b, n, count)
			checkSqueezed(t, b.contents(t), lists, n)
			checkSpread(t, b, n)
			checkContents(t, b, want)
		}
	}
}

// P18.1, P18.3: twice: what came to the front stays there, and then has no way to go.
func TestSqueezedTwice(t *testing.T) {
	source := rand.New(rand.NewSource(10))
	for _, n := range numbers() {
		lists := drawnRecords(source, n, 50, 2)
		b := newBench(t, lists, setting{each: 4, window: 2})
		_, live := measuredOf(lists, n)
		checkLive(t, b, n, live)
		once := b.contents(t)
		checkLive(t, b, n, live)
		for i := range once {
			once[i] = withRank(once[i], 0)
		}
		checkContents(t, b, once)
	}
}

// sights are how slots stand ahead of the hops of a call, and in the midst of them, where the first one of the two slots is done and the second one not yet; by the numbers of the hops.
type sights struct {
	ahead, amid map[int][][]byte
}

// sightsOf does a call again and again: each time another page that it reads is too short to be saved, and so it ends in that hop. Of the first of its pages the hop does nothing then, of the second one the half. Pages that are held are not read: not all hops are seen.
func sightsOf(t *testing.T, lists [][]byte, call func(b *bench) api.Errno) sights {
	t.Helper()
	calm := newBench(t, lists, setting{each: 1, window: 2})
	if err := call(calm); err != api.OK {
		t.Fatalf("the call answers %d", err)
	}
	seen := sights{ahead: map[int][][]byte{}, amid: map[int][][]byte{}}
	for at, touch := range calm.store.Log() {
		if at < calm.ops || touch.Op != api.OpRead {
			continue
		}
		b := newBench(t, lists, setting{each: 1, window: 2})
		b.store.forge[at] = cut
		if err := call(b); err != api.ErrLength {
			t.Fatalf("with the read %d cut the call answers %d", at, err)
		}
		log := slices.DeleteFunc(b.touched(), func(access api.Access) bool { return access.Kind != api.AxPair })
		if len(log) == 0 {
			continue
		}
		if k := len(log) - 1; log[k].Slot == touch.Page {
			seen.ahead[k] = b.contents(t)
		} else {
			seen.amid[k] = b.contents(t)
		}
	}
	return seen
}

// checkExchange: of two states the second is the first, or two slots of it changed places, one of them live and the other dead.
func checkExchange(t *testing.T, ahead, behind [][]byte) {
	t.Helper()
	var unlike []int
	for i := range ahead {
		if !bytes.Equal(ahead[i], behind[i]) {
			unlike = append(unlike, i)
		}
	}
	if len(unlike) == 0 {
		return
	}
	if len(unlike) != 2 {
		t.Fatalf("%v becomes %v", ahead, behind)
	}
	i, j := unlike[0], unlike[1]
	if !bytes.Equal(ahead[i], behind[j]) || !bytes.Equal(ahead[j], behind[i]) || record.Live(ahead[i]) == record.Live(ahead[j]) {
		t.Fatalf("the slots %d and %d, %v and %v, become %v and %v", i, j, ahead[i], ahead[j], behind[i], behind[j])
	}
}

// checkSights holds what was seen of a call to how it stands by the model, hop by hop.
func checkSights(t *testing.T, seen sights, log []api.Access, want [][][]byte) {
	t.Helper()
	if len(seen.ahead)+len(seen.amid) < len(log)-1 {
		t.Fatalf("of %d hops %d are seen from ahead, %d from amid", len(log), len(seen.ahead), len(seen.amid))
	}
	for k, state := range seen.ahead {
		checkLists(t, fmt.Sprintf("ahead of the hop %d the slots", k), state, want[k])
	}
	for k, state := range seen.amid {
		half := slices.Clone(want[k])
		half[log[k].Slot] = want[k+1][log[k].Slot]
		checkLists(t, fmt.Sprintf("amid the hop %d the slots", k), state, half)
	}
}

// checkExchanges is P18.3 of all hops of a Squeeze that are seen from both sides.
func checkExchanges(t *testing.T, seen sights, n int) {
	t.Helper()
	both := 0
	for k, state := range seen.ahead {
		if next, ok := seen.ahead[k+1]; ok {
			both++
			checkExchange(t, state, next)
		}
	}
	if both < len(hopsOf(n))/2 {
		t.Fatalf("%d of %d hops are seen from both sides", both, len(hopsOf(n)))
	}
}

// P18.1 to P18.3: hop by hop, there and back: how the slots stand at each of them, and that in Squeeze a live one changes places with a dead one alone.
func TestHopByHop(t *testing.T) {
	for n := 3; n < 8; n++ {
		for bits := range 1 << n {
			if n > 5 && bits%7 != 3 {
				continue
			}
			lists := letters(pattern(n, bits))
			there := squeezeStates(lists, n)
			seen := sightsOf(t, lists, func(b *bench) api.Errno {
				_, err := Squeeze(b.slots, n)
				return err
			})
			checkSights(t, seen, pairsOf(n), there)
			if n > 3 {
				checkExchanges(t, seen, n)
			}
			back := spreadStates(last(there), n)
			seen = sightsOf(t, last(there), func(b *bench) api.Errno { return Spread(b.slots, n) })
			checkSights(t, seen, spreadLog(n), back)
		}
	}
}

// P18.3: by the model too, of all patterns: each exchange is of a live one and a dead one. What the slots hold behind each call is held to the model elsewhere.
func TestExchangesOfTheModel(t *testing.T) {
	for n := range 11 {
		for bits := range 1 << n {
			states := squeezeStates(letters(pattern(n, bits)), n)
			for k := 1; k < len(states); k++ {
				checkExchange(t, states[k-1], states[k])
			}
		}
	}
}

// P18.5, R8: which accesses are made, and what the host sees, hangs on n alone: not on what stands there, nor on how many slots there are behind.
func TestWhatIsSeen(t *testing.T) {
	source := rand.New(rand.NewSource(11))
	for _, n := range numbers() {
		how := setting{each: 2, window: 3}
		var first *bench
		for _, lists := range [][][]byte{
			drawnRecords(source, n+2, 0, 4), drawnRecords(source, n+2, 100, 4), drawnRecords(source, n+2, 50, 4),
			withLowRanks(source, drawnRecords(source, n+2, 50, 4), n+1), drawnLists(source, n+2, 30, 256), drawnLists(source, n+2, 30, 3),
		} {
			b := newBench(t, lists, how)
			// Spread goes first: it takes any Rank.
			checkSpread(t, b, n)
			_, live := measuredOf(b.contents(t), n)
			checkLive(t, b, n, live)
			checkSpread(t, b, n)
			checkTouched(t, b, slices.Concat(spreadLog(n), getsOf(n+2), squeezeLog(n), spreadLog(n)))
			if first == nil {
				first = b
			}
			if !slices.Equal(b.store.Log(), first.store.Log()) {
				t.Fatalf("of %d the host sees %v, and then %v", n, first.store.Log(), b.store.Log())
			}
		}
		longer := newBench(t, drawnRecords(source, n+40, 50, 4), how)
		if _, err := Squeeze(longer.slots, n); err != api.OK {
			t.Fatalf("Squeeze of %d = %d", n, err)
		}
		checkSpread(t, longer, n)
		checkTouched(t, longer, append(squeezeLog(n), spreadLog(n)...))
	}
}

// getsOf are the accesses of reading n slots.
func getsOf(n int) []api.Access {
	var log []api.Access
	for i := range n {
		log = append(log, api.Access{Kind: api.AxGet, Slot: i})
	}
	return log
}
