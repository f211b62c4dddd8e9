package ladder

import (
	"math"
	"runtime"
	"slices"
	"strings"
	"testing"

	"tryst/api"
)

// mixed has n public keys, of which every third is weak.
func mixed(seed int64, n int) []api.Key {
	keys, weak := drawnKeys(seed, n), weakOnes()
	for i := 2; i < n; i += 3 {
		keys[i] = weak[i%len(weak)]
	}
	return keys
}

func checkAgrees(t *testing.T, own api.Key, others []api.Key, workers int) {
	t.Helper()
	secrets, strong, err := Agrees(own, others, workers)
	if err != api.OK || len(secrets) != len(others) || len(strong) != len(others) {
		t.Fatalf("Agrees with %d by %d: %d and %d, %d", len(others), workers, len(secrets), len(strong), err)
	}
	for i, other := range others {
		secret, is := Agree(own, other)
		if secrets[i] != secret || strong[i] != is {
			t.Fatalf("Agrees with %d by %d, at %d: %x, %x, want %x, %x", len(others), workers, i, secrets[i], strong[i], secret, is)
		}
	}
}

// P9.3, R6: none, one and many others, by every number of workers that may be.
func TestAgrees(t *testing.T) {
	own := keyOf(firstPrivate)
	for _, n := range []int{0, 1, 2, 3, 15, 16, 17, 33} {
		others := mixed(96, n)
		for workers := 1; workers <= api.MaxWorkers; workers++ {
			checkAgrees(t, own, others, workers)
		}
	}
	checkAgrees(t, own, mixed(97, 300), 7)
}

// P9.3, R6: the same one at every place; keys of bytes 0 and of bytes 255 for own.
func TestAgreesOfOneKey(t *testing.T) {
	for _, own := range []api.Key{{}, row(0xff, 0xff, 0xff)} {
		for _, other := range []api.Key{{}, {9}, row(0xff, 0xff, 0xff)} {
			checkAgrees(t, own, slices.Repeat([]api.Key{other}, 20), 5)
		}
	}
}

// Errors, R2: also where there are no others.
func TestAgreesByTooFewAndTooMany(t *testing.T) {
	own := keyOf(firstPrivate)
	for _, workers := range []int{0, -1, -16, api.MaxWorkers + 1, math.MaxInt, math.MinInt} {
		for _, others := range [][]api.Key{nil, {}, mixed(98, 1), mixed(98, 40)} {
			secrets, strong, err := Agrees(own, others, workers)
			if err != api.ErrArg || secrets != nil || strong != nil {
				t.Fatalf("Agrees with %d by %d = %x, %x, %d", len(others), workers, secrets, strong, err)
			}
		}
	}
}

// R4: nil and empty are the same.
func TestAgreesWithNone(t *testing.T) {
	for _, workers := range []int{1, 2, api.MaxWorkers} {
		checkAgrees(t, api.Key{9}, nil, workers)
		checkAgrees(t, api.Key{9}, []api.Key{}, workers)
	}
}

// R5: neither the others nor the room behind their end is changed; later changes of them are not seen; two answers share nothing.
func TestAgreesKeepsToItself(t *testing.T) {
	own, room := keyOf(firstPrivate), mixed(99, 40)
	before := slices.Clone(room)
	secrets, strong, _ := Agrees(own, room[:20], 3)
	again, too, _ := Agrees(own, room[:20], 4)
	if !slices.Equal(room, before) {
		t.Fatal("what was handed in has changed")
	}
	clear(room)
	if !slices.Equal(secrets, again) || !slices.Equal(strong, too) {
		t.Fatal("an answer hangs on what was done to the others afterwards, or on who worked")
	}
	clear(secrets[:cap(secrets)])
	clear(strong[:cap(strong)])
	for i, other := range before[:20] {
		secret, is := Agree(own, other)
		if again[i] != secret || too[i] != is {
			t.Fatalf("at %d an answer was changed with another one", i)
		}
	}
}

// R6: many callers at once, with one list.
func TestAgreesOfManyCallers(t *testing.T) {
	others := mixed(100, 25)
	done := make(chan bool)
	for caller := range 8 {
		go func() {
			own := api.Key{byte(caller)}
			secrets, strong, err := Agrees(own, others, caller+1)
			right := err == api.OK
			for i, other := range others {
				secret, is := Agree(own, other)
				right = right && secrets[i] == secret && strong[i] == is
			}
			done <- right
		}()
	}
	for range 8 {
		if !<-done {
			t.Error("a caller has another's answers")
		}
	}
}

// atWork counts the goroutines that calls of Agrees have begun and that have not ended.
func atWork() int {
	all := make([]byte, 1<<20)
	return strings.Count(string(all[:runtime.Stack(all, true)]), "created by tryst/ladder.Agrees in ")
}

// mostAtOnce is how many goroutines were seen while Agrees went on; behind it they end.
func mostAtOnce(t *testing.T, others []api.Key, workers int) int {
	t.Helper()
	done := make(chan bool)
	go func() {
		Agrees(api.Key{9}, others, workers)
		close(done)
	}()
	most, over := 0, false
	for !over {
		most = max(most, atWork())
		select {
		case <-done:
			over = true
		default:
		}
	}
	for range 10000 {
		if atWork() == 0 {
			return most
		}
		runtime.Gosched()
	}
	t.Fatal("a goroutine was left behind")
	return most
}

// P9.3: as many goroutines as there are workers, each with enough to do that they meet. A glance may miss some of them: so there are some tries to see them all.
func TestAgreesAtTheSameTime(t *testing.T) {
	defer runtime.GOMAXPROCS(runtime.GOMAXPROCS(api.MaxWorkers + 2))
	for _, workers := range []int{1, 2, 5, api.MaxWorkers} {
		most := 0
		for try := 0; try < 30 && most < workers; try++ {
			most = max(most, mostAtOnce(t, mixed(101, 100*workers), workers))
		}
		if most != workers {
			t.Errorf("by %d: %d at the same time", workers, most)
		}
	}
}

// P9.3: never more than there are others.
func TestAgreesByFewer(t *testing.T) {
	for _, others := range []int{0, 1, 3, 15} {
		for range 10 {
			if most := mostAtOnce(t, mixed(102, others), api.MaxWorkers); most > others {
				t.Errorf("with %d: %d at the same time", others, most)
			}
		}
	}
}
