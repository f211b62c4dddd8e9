package sweep

import (
	"bytes"
	"slices"
	"testing"

	"tryst/api"
	"tryst/host"
	"tryst/page"
	"tryst/pager"
	"tryst/slots"
)

// meddler is a store that refuses what it is asked for, or brings other pages, sealed as who has the key can, so that a pager takes them, where it is told to: by the number of the Read or Write, from 0 on.
type meddler struct {
	*host.Host
	deeds    int
	versions map[int]uint32
	refuse   map[int]api.Errno
	forge    map[int]func(text []byte) []byte
}

func (m *meddler) Read(number int) ([]byte, api.Errno) {
	deed := m.deeds
	m.deeds++
	if err := m.refuse[deed]; err != api.OK {
		return nil, err
	}
	box, err := m.Host.Read(number)
	if forge := m.forge[deed]; forge != nil {
		return m.forged(number, box, forge), err
	}
	return box, err
}

func (m *meddler) Write(number int, b []byte) api.Errno {
	deed := m.deeds
	m.deeds++
	if err := m.refuse[deed]; err != api.OK {
		return err
	}
	m.versions[number]++
	return m.Host.Write(number, b)
}

func (m *meddler) forged(number int, box []byte, forge func(text []byte) []byte) []byte {
	round, counter, _ := page.Head(box)
	place := api.Place{Round: round, Counter: counter, Page: uint32(number), Version: m.versions[number]}
	text, _ := page.Open(api.Key{1}, place, box)
	other, _ := page.Seal(api.Key{1}, place, forge(text))
	return other
}

// cut leaves the last byte of a page out: it can't be saved any more, but the pager lives on.
func cut(text []byte) []byte { return text[:len(text)-1] }

// bench is slots over a store of their own, and what had been done when they were filled.
type bench struct {
	store         *meddler
	pager         *pager.Pager
	slots         *slots.Slots
	accesses, ops int
}

// setting is how slots lie: so many on a page, so many pages held, and what befalls the host.
type setting struct {
	each, window int
	faults       []api.Fault
}

func settings() []setting {
	return []setting{{each: 1, window: 2}, {each: 3, window: 2}, {each: 5, window: 4}, {each: 100, window: 16}}
}

// emptyBench has n slots of so many bytes, in which nothing was laid yet.
func emptyBench(t *testing.T, n, size int, how setting) *bench {
	t.Helper()
	machine, err := host.New((n+how.each-1)/how.each, how.each*size+api.PageSize, how.faults)
	if err != api.OK {
		t.Fatalf("host.New: %d", err)
	}
	b := &bench{store: &meddler{Host: machine, versions: map[int]uint32{}, refuse: map[int]api.Errno{}, forge: map[int]func(text []byte) []byte{}}}
	if b.pager, err = pager.New(b.store, api.Key{1}, 9, how.window); err != api.OK {
		t.Fatalf("pager.New: %d", err)
	}
	if b.slots, err = slots.New(b.pager, 0, n, size); err != api.OK {
		t.Fatalf("slots.New: %d", err)
	}
	return b
}

// newBench has a slot for each of the lists, which are as long as one another.
func newBench(t *testing.T, lists [][]byte, how setting) *bench {
	t.Helper()
	size := api.HeadSize
	if len(lists) > 0 {
		size = len(lists[0])
	}
	b := emptyBench(t, len(lists), size, how)
	for i, list := range lists {
		if err := b.slots.Set(i, list); err != api.OK {
			t.Fatalf("Set(%d): %d", i, err)
		}
	}
	b.mark()
	return b
}

// mark begins anew with what was done.
func (b *bench) mark() { b.accesses, b.ops = len(b.slots.Log()), b.store.Ops() }

// touched are the accesses since the last mark.
func (b *bench) touched() []api.Access { return b.slots.Log()[b.accesses:] }

// contents reads all slots, by which the log grows.
func (b *bench) contents(t *testing.T) [][]byte {
	t.Helper()
	var lists [][]byte
	for i := range b.slots.Len() {
		list, err := b.slots.Get(i)
		if err != api.OK {
			t.Fatalf("Get(%d): %d", i, err)
		}
		lists = append(lists, list)
	}
	return lists
}

func checkContents(t *testing.T, b *bench, want [][]byte) {
	t.Helper()
	checkLists(t, "the slots", b.contents(t), want)
}

// checkLists tells where the first unlike one is: of as many as there may be nobody reads them all.
func checkLists(t *testing.T, what string, got, want [][]byte) {
	t.Helper()
	if len(got) != len(want) {
		t.Fatalf("%s are %d, want %d", what, len(got), len(want))
	}
	for i := range want {
		if !bytes.Equal(got[i], want[i]) {
			t.Fatalf("%s hold at %d %v, want %v", what, i, got[i], want[i])
		}
	}
}

func checkTouched(t *testing.T, b *bench, want []api.Access) {
	t.Helper()
	got := b.touched()
	for k := range min(len(got), len(want)) {
		if got[k] != want[k] {
			t.Fatalf("the access %d is %v, want %v", k, got[k], want[k])
		}
	}
	if len(got) != len(want) {
		t.Fatalf("%d accesses, want %d", len(got), len(want))
	}
}

// checkUntouched: since the last mark nothing was done to the slots, nor asked of the host.
func checkUntouched(t *testing.T, b *bench) {
	t.Helper()
	checkTouched(t, b, nil)
	if b.store.Ops() != b.ops {
		t.Fatalf("%d operations, want %d", b.store.Ops(), b.ops)
	}
}

// checkSameLife holds all that two benches can tell against each other: accesses, touches, what lies at the host and what is held.
func checkSameLife(t *testing.T, what string, got, want *bench) {
	t.Helper()
	if !slices.Equal(got.slots.Log(), want.slots.Log()) {
		t.Fatalf("%s: the accesses are %v, want %v", what, got.touched(), want.touched())
	}
	if !slices.Equal(got.store.Log(), want.store.Log()) || got.store.Ops() != want.store.Ops() || got.store.deeds != want.store.deeds {
		t.Fatalf("%s: the touches are %v, want %v", what, got.store.Log(), want.store.Log())
	}
	if !slices.Equal(got.pager.Held(), want.pager.Held()) || got.pager.Writes() != want.pager.Writes() || got.pager.Err() != want.pager.Err() {
		t.Fatalf("%s: held are %v, want %v", what, got.pager.Held(), want.pager.Held())
	}
	for number := range want.store.Pages() {
		if !bytes.Equal(got.store.Lies(number), want.store.Lies(number)) {
			t.Fatalf("%s: on the page %d lies something else", what, number)
		}
	}
	for number := range want.store.Pages() {
		one, oneErr := got.pager.Load(number)
		other, otherErr := want.pager.Load(number)
		if oneErr != otherErr || !bytes.Equal(one, other) {
			t.Fatalf("%s: the page %d is %v, %d, want %v, %d", what, number, one, oneErr, other, otherErr)
		}
	}
}
