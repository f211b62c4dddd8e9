package slots

import (
	"bytes"
	"fmt"
	"slices"
	"testing"

	"tryst/api"
	"tryst/pager"
)

// deed is what a shelf was asked for; box is what was written.
type deed struct {
	op, page int
	box      string
}

func (d deed) String() string { return fmt.Sprintf("%d of %d: %x", d.op, d.page, d.box) }

// shelf is a store that writes down what it is asked for, and refuses or lies where it is told to.
type shelf struct {
	pages, size int
	laid        map[int][]byte
	deeds       []deed
	refuse      map[int]api.Errno                 // by the number of the deed
	lie         map[int]func(right []byte) []byte // likewise: what it answers in the place of what was written last
}

// newShelf has pages on which texts of so many bytes lie.
func newShelf(pages, text int) *shelf {
	return &shelf{pages: pages, size: text + api.PageSize, laid: map[int][]byte{}, refuse: map[int]api.Errno{}, lie: map[int]func([]byte) []byte{}}
}

func (s *shelf) Pages() int { return s.pages }

func (s *shelf) Size() int { return s.size }

func (s *shelf) Read(page int) ([]byte, api.Errno) {
	number := len(s.deeds)
	s.deeds = append(s.deeds, deed{op: api.OpRead, page: page})
	b := bytes.Clone(s.laid[page])
	if lie := s.lie[number]; lie != nil {
		b = lie(b)
	}
	return b, s.refuse[number]
}

func (s *shelf) Write(page int, b []byte) api.Errno {
	number := len(s.deeds)
	s.deeds = append(s.deeds, deed{op: api.OpWrite, page: page, box: string(b)})
	if err := s.refuse[number]; err != api.OK {
		return err
	}
	s.laid[page] = bytes.Clone(b)
	return api.OK
}

// checkOrder holds what the store was asked for, as numbers: of a read the page, of a write the page and 100.
func checkOrder(t *testing.T, s *shelf, want ...int) {
	t.Helper()
	var got []int
	for _, d := range s.deeds {
		got = append(got, d.page+100*d.op)
	}
	if !slices.Equal(got, want) {
		t.Fatalf("the store was asked for %v, want %v", got, want)
	}
}

// over is a pager of the round 9 over a store.
func over(t *testing.T, s api.Store, window int) *pager.Pager {
	t.Helper()
	p, err := pager.New(s, api.Key{1}, 9, window)
	if err != api.OK {
		t.Fatalf("pager.New: %d", err)
	}
	return p
}

func made(t *testing.T, p *pager.Pager, first, n, size int) *Slots {
	t.Helper()
	s, err := New(p, first, n, size)
	if err != api.OK || s == nil {
		t.Fatalf("New(p, %d, %d, %d) = %v, %d", first, n, size, s, err)
	}
	return s
}

func checkHeld(t *testing.T, p *pager.Pager, want ...int) {
	t.Helper()
	if got := p.Held(); !slices.Equal(got, want) {
		t.Fatalf("Held() = %v, want %v", got, want)
	}
}

func checkText(t *testing.T, p *pager.Pager, page int, want ...byte) {
	t.Helper()
	if text, err := p.Load(page); err != api.OK || !bytes.Equal(text, want) {
		t.Fatalf("the page %d: %v, %d, want %v", page, text, err, want)
	}
}

func checkGet(t *testing.T, s *Slots, i int, want ...byte) {
	t.Helper()
	if b, err := s.Get(i); err != api.OK || !bytes.Equal(b, want) {
		t.Fatalf("Get(%d) = %v, %d, want %v", i, b, err, want)
	}
}

func checkGetRefused(t *testing.T, s *Slots, i int, want api.Errno) {
	t.Helper()
	if b, err := s.Get(i); err != want || len(b) != 0 {
		t.Fatalf("Get(%d) = %v, %d, want %d", i, b, err, want)
	}
}

func checkSet(t *testing.T, s *Slots, want api.Errno, i int, b ...byte) {
	t.Helper()
	if err := s.Set(i, b); err != want {
		t.Fatalf("Set(%d, %v) = %d, want %d", i, b, err, want)
	}
}

func checkPair(t *testing.T, s *Slots, want api.Errno, i, j int, f func(a, b []byte)) {
	t.Helper()
	if err := s.Pair(i, j, f); err != want {
		t.Fatalf("Pair(%d, %d) = %d, want %d", i, j, err, want)
	}
}

// checkLog holds the log against accesses as (kind, slot, other).
func checkLog(t *testing.T, s *Slots, want ...[3]int) {
	t.Helper()
	var log [][3]int
	for _, access := range s.Log() {
		log = append(log, [3]int{access.Kind, access.Slot, access.Other})
	}
	if !slices.Equal(log, want) {
		t.Fatalf("Log() = %v, want %v", log, want)
	}
}

// exchange, and others of its kind, are what Pair does.
func exchange(a, b []byte) {
	for k := range a {
		a[k], b[k] = b[k], a[k]
	}
}

func nothing(a, b []byte) {}

// overwrite goes up to the end of the room that a list has.
func overwrite(b []byte) {
	b = b[:cap(b)]
	for k := range b {
		b[k] ^= 0x5a
	}
}
