package pager

import (
	"bytes"
	"fmt"
	"slices"
	"testing"

	"tryst/api"
)

// deed is what a shelf was asked for; box is what was written.
type deed struct {
	op, page int
	box      string
}

func (d deed) String() string { return fmt.Sprintf("%d of %d: %x", d.op, d.page, d.box) }

// shelf is a store that writes down what it is asked for, and refuses or lies where it is told to.
type shelf struct {
	pages, size           int
	askedPages, askedSize int
	laid                  map[int][][]byte // of each page what was written there, the newest at the end
	deeds                 []deed
	refuse                map[int]api.Errno                 // by the number of the deed
	lie                   map[int]func(right []byte) []byte // likewise: what it answers in the place of what was written last
	handed                [][]byte
}

func newShelf(pages, size int) *shelf {
	return &shelf{pages: pages, size: size, laid: map[int][][]byte{}, refuse: map[int]api.Errno{}, lie: map[int]func([]byte) []byte{}}
}

func (s *shelf) Pages() int {
	s.askedPages++
	return s.pages
}

func (s *shelf) Size() int {
	s.askedSize++
	return s.size
}

func (s *shelf) Read(page int) ([]byte, api.Errno) {
	number := len(s.deeds)
	s.deeds = append(s.deeds, deed{op: api.OpRead, page: page})
	var b []byte
	if row := s.laid[page]; len(row) > 0 {
		b = bytes.Clone(row[len(row)-1])
	}
	if lie := s.lie[number]; lie != nil {
		b = lie(b)
	}
	s.handed = append(s.handed, b)
	return b, s.refuse[number]
}

func (s *shelf) Write(page int, b []byte) api.Errno {
	number := len(s.deeds)
	s.deeds = append(s.deeds, deed{op: api.OpWrite, page: page, box: string(b)})
	s.handed = append(s.handed, b)
	if err := s.refuse[number]; err != api.OK {
		return err
	}
	s.laid[page] = append(s.laid[page], bytes.Clone(b))
	return api.OK
}

// order are the shelf's deeds as numbers: of a read the page, of a write the page and 100.
func (s *shelf) order() []int {
	var order []int
	for _, d := range s.deeds {
		order = append(order, d.page+100*d.op)
	}
	return order
}

func checkOrder(t *testing.T, s *shelf, want ...int) {
	t.Helper()
	if got := s.order(); !slices.Equal(got, want) {
		t.Fatalf("the store was asked for %v, want %v", got, want)
	}
}
