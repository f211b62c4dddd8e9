package sweep

import (
	"bytes"
	"encoding/hex"
	"fmt"
	"math/rand"
	"slices"
	"testing"

	"tryst/api"
	"tryst/slots"
)

// sight is what a step was handed, and how many accesses there were by then.
type sight struct {
	a, b     string
	accesses int
}

// noted writes down what a step is handed of the slots of b.
func noted(b *bench, seen *[]sight, step func(list []byte)) func(list []byte) {
	return func(list []byte) {
		*seen = append(*seen, sight{a: hex.EncodeToString(list), accesses: len(b.slots.Log())})
		step(list)
	}
}

// notedPairs is likewise of a step of Neighbours.
func notedPairs(b *bench, seen *[]sight, step func(x, y []byte)) func(x, y []byte) {
	return func(x, y []byte) {
		*seen = append(*seen, sight{hex.EncodeToString(x), hex.EncodeToString(y), len(b.slots.Log())})
		step(x, y)
	}
}

// stepMakers make steps that change nothing, some bytes, or all; in some of them what came ahead tells what is done.
func stepMakers() []func() func(list []byte) {
	return []func() func(list []byte){
		func() func(list []byte) { return func(list []byte) {} },
		func() func(list []byte) { return func(list []byte) { list[0] ^= 0xff } },
		func() func(list []byte) { return func(list []byte) { list[len(list)-1]++ } },
		func() func(list []byte) { return func(list []byte) { clear(list) } },
		func() func(list []byte) {
			sum := byte(0)
			return func(list []byte) {
				for k := range list {
					sum += list[k]
					list[k] = sum
				}
			}
		},
		func() func(list []byte) {
			var last []byte
			return func(list []byte) {
				kept := bytes.Clone(list)
				copy(list, last)
				last = kept
			}
		},
	}
}

// pairMakers make steps of Neighbours.
func pairMakers() []func() func(x, y []byte) {
	return []func() func(x, y []byte){
		func() func(x, y []byte) { return func(x, y []byte) {} },
		func() func(x, y []byte) {
			return func(x, y []byte) {
				for k := range x {
					x[k], y[k] = y[k], x[k]
				}
			}
		},
		func() func(x, y []byte) { return func(x, y []byte) { y[0] += 3 * x[len(x)-1] } },
		func() func(x, y []byte) { return func(x, y []byte) { x[len(x)-1] += 5 * y[0] } },
		func() func(x, y []byte) {
			calls := byte(0)
			return func(x, y []byte) {
				calls++
				x[0], y[len(y)-1] = calls, ^calls
			}
		},
	}
}

// pass is a call with a step beside the model of it, and the accesses that it makes.
type pass struct {
	name        string
	call, model func(s *slots.Slots, n int, step func(list []byte)) api.Errno
	log         func(n int) []api.Access
}

func passes() []pass {
	return []pass{{"Forward", Forward, forwardOf, forwardLog}, {"Backward", Backward, backwardOf, backwardLog}}
}

// checkNoted holds one life to another: what the steps saw, and all else.
func checkNoted(t *testing.T, what string, got, want *bench, seen, wantSeen []sight, calls int) {
	t.Helper()
	if !slices.Equal(seen, wantSeen) || len(seen) != calls {
		t.Fatalf("%s hands step %v, want %v", what, seen, wantSeen)
	}
	checkSameLife(t, what, got, want)
}

// P19.1: slot by slot, life by life, of records and of what is none, to the first n of them: what step is handed, and when; accesses, touches, contents.
func TestSlotBySlot(t *testing.T) {
	source := rand.New(rand.NewSource(1))
	for _, p := range passes() {
		for _, n := range numbers() {
			for _, how := range settings() {
				for _, maker := range stepMakers() {
					for _, lists := range [][][]byte{drawnRecords(source, n+3, 50, 3, 2), drawnLists(source, n+1, 1, 256), drawnLists(source, n, 40, 256)} {
						got, want := newBench(t, lists, how), newBench(t, lists, how)
						var seen, wantSeen []sight
						checkPass(t, p.call(got.slots, n, noted(got, &seen, maker())))
						checkPass(t, p.model(want.slots, n, noted(want, &wantSeen, maker())))
						checkTouched(t, got, p.log(n))
						checkNoted(t, fmt.Sprintf("%s of %d", p.name, n), got, want, seen, wantSeen, n)
					}
				}
			}
		}
	}
}

// P19.1: what came ahead is carried on, this way and that way; slots from n on stay.
func TestCarriedOn(t *testing.T) {
	for _, c := range []struct {
		call func(s *slots.Slots, n int, step func(list []byte)) api.Errno
		want [][]byte
	}{{Forward, [][]byte{{1}, {3}, {7}, {15}, {100}}}, {Backward, [][]byte{{15}, {14}, {12}, {8}, {100}}}} {
		for _, how := range settings() {
			b := newBench(t, [][]byte{{1}, {2}, {4}, {8}, {100}}, how)
			sum := byte(0)
			checkPass(t, c.call(b.slots, 4, func(list []byte) {
				sum += list[0]
				list[0] = sum
			}))
			checkContents(t, b, c.want)
		}
	}
}

// P19.1: step is called between the Get and the Set of its slot, once.
func TestStepBetweenGetAndSet(t *testing.T) {
	for _, p := range passes() {
		b := newBench(t, drawnLists(rand.New(rand.NewSource(2)), 9, 3, 256), setting{each: 2, window: 2})
		calls := 0
		checkPass(t, p.call(b.slots, 7, func(list []byte) {
			checkTouched(t, b, p.log(7)[:2*calls+1])
			calls++
		}))
		if calls != 7 {
			t.Fatalf("%s of 7 calls step %d times", p.name, calls)
		}
		checkTouched(t, b, p.log(7))
	}
}

// P19.2: pair by pair, life by life: the slot and the one behind it, as the pair ahead left it.
func TestPairByPair(t *testing.T) {
	source := rand.New(rand.NewSource(3))
	for _, n := range numbers() {
		for _, how := range settings() {
			for _, maker := range pairMakers() {
				for _, lists := range [][][]byte{drawnRecords(source, n+3, 50, 3, 2), drawnLists(source, n+1, 1, 256), drawnLists(source, n, 40, 256)} {
					got, want := newBench(t, lists, how), newBench(t, lists, how)
					var seen, wantSeen []sight
					checkPass(t, Neighbours(got.slots, n, notedPairs(got, &seen, maker())))
					checkPass(t, neighboursOf(want.slots, n, notedPairs(want, &wantSeen, maker())))
					checkTouched(t, got, neighboursLog(n))
					checkNoted(t, fmt.Sprintf("Neighbours of %d", n), got, want, seen, wantSeen, max(n-1, 0))
				}
			}
		}
	}
}

// P19.2: the first slot is handed ahead of the second one, and a pair gets what the pair ahead of it left.
func TestPairsOneBehindTheOther(t *testing.T) {
	for _, how := range settings() {
		b := newBench(t, [][]byte{{1}, {2}, {3}, {4}, {50}}, how)
		var seen [][2]byte
		checkPass(t, Neighbours(b.slots, 4, func(x, y []byte) {
			seen = append(seen, [2]byte{x[0], y[0]})
			x[0], y[0] = x[0]+y[0], 10*x[0]
		}))
		if !slices.Equal(seen, [][2]byte{{1, 2}, {10, 3}, {100, 4}}) {
			t.Fatalf("step is handed %v", seen)
		}
		checkContents(t, b, [][]byte{{3}, {13}, {104}, {1000 % 256}, {50}})
	}
}

// P19.2, P19.8: neighbours of none and of one touch nothing, also where there are more slots.
func TestNeighboursOfNoneAndOne(t *testing.T) {
	for length := range 4 {
		b := newBench(t, drawnLists(rand.New(rand.NewSource(4)), length, 3, 256), setting{each: 1, window: 2})
		held := b.pager.Held()
		for n := range min(length, 1) + 1 {
			checkPass(t, Neighbours(b.slots, n, func(x, y []byte) { t.Error("step is called") }))
		}
		checkUntouched(t, b)
		if !slices.Equal(b.pager.Held(), held) {
			t.Fatalf("held are %v, want %v", b.pager.Held(), held)
		}
	}
}

// overwrite goes up to the end of the room that a list has.
func overwrite(list []byte) {
	list = list[:cap(list)]
	for k := range list {
		list[k] ^= 0x5a
	}
}

// P19.1, R5: step has its list's bytes alone: as many as a slot has, and no room behind them, on a page with many slots, with one, and on a page that is longer than they are.
func TestStepHasNoRoomBehind(t *testing.T) {
	alone := func(list []byte) {
		if len(list) != 5 || cap(list) != 5 {
			t.Fatalf("step has %d bytes, and room for %d", len(list), cap(list))
		}
		longer := append(list, 0xee)
		longer[0] = 0xee
	}
	for _, how := range settings() {
		lists := drawnLists(rand.New(rand.NewSource(5)), 9, 5, 200)
		b := newBench(t, lists, how)
		checkPass(t, Forward(b.slots, 9, alone))
		checkPass(t, Backward(b.slots, 9, alone))
		checkPass(t, Neighbours(b.slots, 9, func(x, y []byte) {
			alone(x)
			alone(y)
		}))
		checkContents(t, b, lists)
	}
}

// P19.1, P19.2, R5: what step keeps does nothing any more: it writes over all that it was handed ahead of this call.
func TestStepKeeps(t *testing.T) {
	source := rand.New(rand.NewSource(6))
	for _, how := range settings() {
		lists := drawnLists(source, 12, 6, 256)
		b := newBench(t, lists, how)
		var kept [][]byte
		spoiling := func(list []byte) {
			for _, old := range kept {
				overwrite(old)
			}
			kept = append(kept, list)
			list[0]++
		}
		checkPass(t, Forward(b.slots, 12, spoiling))
		checkPass(t, Backward(b.slots, 12, spoiling))
		checkPass(t, Neighbours(b.slots, 12, func(x, y []byte) {
			spoiling(x)
			kept = append(kept, y)
		}))
		for _, old := range kept {
			overwrite(old)
		}
		want := slices.Clone(lists)
		for i := range want {
			want[i] = bytes.Clone(want[i])
			want[i][0] += 2
			if i < 11 {
				want[i][0]++
			}
		}
		checkContents(t, b, want)
	}
}

// R5: what step is handed is new memory each time: kept, it stays as step left it, whatever comes behind.
func TestKeptStays(t *testing.T) {
	b := newBench(t, drawnLists(rand.New(rand.NewSource(7)), 10, 4, 256), setting{each: 3, window: 2})
	var kept, as [][]byte
	keep := func(list []byte) {
		list[1]++
		kept, as = append(kept, list), append(as, bytes.Clone(list))
	}
	checkPass(t, Forward(b.slots, 10, keep))
	checkPass(t, Backward(b.slots, 10, keep))
	checkPass(t, Neighbours(b.slots, 10, func(x, y []byte) {
		keep(x)
		keep(y)
	}))
	checkLists(t, "the kept ones", kept, as)
	for i := range kept {
		overwrite(kept[i])
		checkLists(t, "the other kept ones", kept[i+1:], as[i+1:])
	}
}
