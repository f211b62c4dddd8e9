package onion

import (
	"bytes"
	"math"
	"runtime"
	"slices"
	"strings"
	"testing"

	"tryst/api"
)

// mixed are n boxes of several lengths: valid ones, wrong ones and weak ones, and some that stand there twice.
func mixed(own api.Key, round uint64, n int) [][]byte {
	boxes, weak := make([][]byte, n), weakOnes()
	for i := range boxes {
		inner := drawn(int64(i), i%7*20)
		switch i % 4 {
		case 0, 1:
			boxes[i], _ = sent(own, counted(byte(i)), round, inner)
		case 2:
			boxes[i], _ = layerOf(api.Key{}, weak[i%len(weak)], publicOf(own), round, inner)
		default:
			boxes[i], _ = sent(own, counted(byte(i)), round+1, inner)
		}
	}
	if n > 10 {
		boxes[9] = boxes[4]
	}
	return boxes
}

func peeledAll(t *testing.T, own api.Key, round uint64, boxes [][]byte, workers int) []api.Peeled {
	t.Helper()
	peeled, err := PeelAll(own, round, boxes, workers)
	if err != api.OK || len(peeled) != len(boxes) {
		t.Fatalf("PeelAll of %d by %d: %d of them, %d", len(boxes), workers, len(peeled), err)
	}
	return peeled
}

func checkPeelAll(t *testing.T, own api.Key, round uint64, boxes [][]byte, workers int) {
	t.Helper()
	for i, peeled := range peeledAll(t, own, round, boxes, workers) {
		checkPeeled(t, "PeelAll", peeled, peeledBy(t, own, round, boxes[i]))
		checkPeeled(t, "PeelAll", peeled, wantedPeel(own, round, boxes[i]))
	}
}

func checkPeelAllRefused(t *testing.T, boxes [][]byte, workers int, want api.Errno) {
	t.Helper()
	if peeled, err := PeelAll(counted(1), 7, boxes, workers); err != want || len(peeled) != 0 {
		t.Errorf("PeelAll of %d by %d = %d of them, %d, want %d", len(boxes), workers, len(peeled), err, want)
	}
}

// P10.4, P10.9, R6: no boxes, one and many, by every number of workers that may be, also more than there are boxes.
func TestPeelAll(t *testing.T) {
	own := counted(1)
	for _, n := range []int{0, 1, 2, 3, 15, 16, 17, 33} {
		boxes := mixed(own, 7, n)
		for workers := 1; workers <= api.MaxWorkers; workers++ {
			checkPeelAll(t, own, 7, boxes, workers)
		}
	}
	checkPeelAll(t, own, math.MaxUint64, mixed(own, math.MaxUint64, 200), 7)
}

// P10.4, P10.9: boxes of the greatest length, beside small ones.
func TestPeelAllOfLongBoxes(t *testing.T) {
	own, long := counted(1), drawn(31, api.MaxBytes)
	boxes := mixed(own, 7, 6)
	boxes[0], _ = sent(own, counted(3), 7, long[:api.MaxBytes-48])
	boxes[3] = long
	checkPeelAll(t, own, 7, boxes, 1)
	checkPeelAll(t, own, 7, boxes, 4)
}

// P10.4, R2: ahead of all errors of boxes.
func TestPeelAllByTooFewAndTooMany(t *testing.T) {
	long := make([]byte, api.MaxBytes+1)
	for _, workers := range []int{0, -1, -16, api.MaxWorkers + 1, math.MaxInt, math.MinInt} {
		for _, boxes := range [][][]byte{nil, {}, mixed(counted(1), 7, 3), {long[:47]}, {long}, {nil, long}} {
			checkPeelAllRefused(t, boxes, workers, api.ErrArg)
		}
	}
}

// P10.4: the error of the first box that is refused, wherever it stands, whoever works.
func TestPeelAllTellsTheFirstError(t *testing.T) {
	good, long := mixed(counted(1), 7, 12), make([]byte, api.MaxBytes+1)
	for _, workers := range []int{1, 2, 3, 11, 12, api.MaxWorkers} {
		for i := range good {
			boxes := slices.Clone(good)
			boxes[i] = long[:47]
			checkPeelAllRefused(t, boxes, workers, api.ErrLength)
			boxes[i] = long
			checkPeelAllRefused(t, boxes, workers, api.ErrLong)
			for j := i + 1; j < len(good); j++ {
				boxes[i], boxes[j] = nil, long
				checkPeelAllRefused(t, boxes, workers, api.ErrLength)
				boxes[i], boxes[j] = long, nil
				checkPeelAllRefused(t, boxes, workers, api.ErrLong)
				boxes[j] = good[j]
			}
		}
	}
}

// R4: nil and empty are the same.
func TestPeelAllOfNone(t *testing.T) {
	for _, workers := range []int{1, 2, api.MaxWorkers} {
		checkPeelAll(t, counted(1), 7, nil, workers)
		checkPeelAll(t, counted(1), 7, [][]byte{}, workers)
	}
	checkPeelAllRefused(t, [][]byte{nil}, 1, api.ErrLength)
	checkPeelAllRefused(t, [][]byte{{}}, 1, api.ErrLength)
}

// R5: neither the list, nor the boxes, nor the room behind either's end is changed.
func TestPeelAllLeavesTheBoxes(t *testing.T) {
	own := counted(1)
	room := mixed(own, 7, 30)
	for i, box := range room {
		room[i] = append(bytes.Clone(box), drawn(32, 50)...)[:len(box)]
	}
	before := slices.Clone(room)
	for _, peeled := range peeledAll(t, own, 7, room[:20], 3) {
		overwrite(peeled.Inner)
	}
	for i, box := range mixed(own, 7, 30) {
		if len(room[i]) != len(box) || &room[i][0] != &before[i][0] {
			t.Fatalf("at %d the list has changed", i)
		}
		checkBytes(t, "a box and the room behind it", room[i][:len(box)+50], append(box, drawn(32, 50)...))
	}
}

// R5: no two answers share, also of one box that stands there often; what is done to the boxes behind the call is not seen.
func TestPeelAllAnswersAreTheirOwn(t *testing.T) {
	own := counted(1)
	for _, round := range []uint64{7, 8} {
		box, _ := sent(own, counted(3), 7, drawn(33, 70))
		want := wantedPeel(own, round, box)
		one := peeledAll(t, own, round, slices.Repeat([][]byte{box}, 10), 4)
		other := peeledAll(t, own, round, slices.Repeat([][]byte{box}, 10), 4)
		overwrite(box)
		for i := range one {
			checkPeeled(t, "an answer", one[i], want)
			overwrite(one[i].Inner)
		}
		clear(one[:cap(one)])
		for _, peeled := range other {
			checkPeeled(t, "another call's answer", peeled, want)
		}
	}
}

// R6: many callers at once, with one list.
func TestPeelAllOfManyCallers(t *testing.T) {
	boxes := mixed(counted(1), 7, 25)
	done := make(chan bool)
	for caller := range 8 {
		go func() {
			own := counted(byte(caller))
			peeled, err := PeelAll(own, 7, boxes, caller+1)
			right := err == api.OK
			for i, box := range boxes {
				want := wantedPeel(own, 7, box)
				right = right && bytes.Equal(peeled[i].Inner, want.Inner) && peeled[i].Reply == want.Reply && peeled[i].Valid == want.Valid
			}
			done <- right
		}()
	}
	for range 8 {
		if !<-done {
			t.Error("a caller has another's answers")
		}
	}
}

// atWork counts the goroutines that calls of PeelAll have begun and that have not ended.
func atWork() int {
	all := make([]byte, 1<<20)
	return strings.Count(string(all[:runtime.Stack(all, true)]), "created by tryst/onion.PeelAll in ")
}

// mostAtOnce is how many goroutines were seen while PeelAll went on; behind it they end.
func mostAtOnce(t *testing.T, boxes [][]byte, workers int) int {
	t.Helper()
	done := make(chan bool)
	go func() {
		PeelAll(counted(1), 7, boxes, workers)
		close(done)
	}()
	most, over := 0, false
	for !over {
		most = max(most, atWork())
		select {
		case <-done:
			over = true
		default:
		}
	}
	for range 10000 {
		if atWork() == 0 {
			return most
		}
		runtime.Gosched()
	}
	t.Fatal("a goroutine was left behind")
	return most
}

// P10.4: as many goroutines as there are workers, each with enough to do that they meet. A glance may miss some of them: so there are some tries to see them all.
func TestPeelAllAtTheSameTime(t *testing.T) {
	defer runtime.GOMAXPROCS(runtime.GOMAXPROCS(api.MaxWorkers + 2))
	for _, workers := range []int{1, 2, 5, api.MaxWorkers} {
		boxes, most := slices.Repeat([][]byte{drawn(34, 200)}, 100*workers), 0
		for try := 0; try < 30 && most < workers; try++ {
			most = max(most, mostAtOnce(t, boxes, workers))
		}
		if most != workers {
			t.Errorf("by %d: %d at the same time", workers, most)
		}
	}
}

// P10.4: none is left behind where there are more workers than boxes.
func TestPeelAllByMoreThanBoxes(t *testing.T) {
	for _, n := range []int{0, 1, 3, 15} {
		for range 10 {
			if most := mostAtOnce(t, slices.Repeat([][]byte{drawn(35, 48)}, n), api.MaxWorkers); most > api.MaxWorkers {
				t.Errorf("of %d: %d at the same time", n, most)
			}
		}
	}
}
