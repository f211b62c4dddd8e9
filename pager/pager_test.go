package pager

import (
	"bytes"
	"math"
	"slices"
	"testing"

	"tryst/api"
	"tryst/octet"
	"tryst/page"
)

// P13.1: the window at its edges and beyond them, ahead of what the store says.
func TestNewWindow(t *testing.T) {
	for _, window := range []int{2, 3, 15, 16} {
		p := made(t, newShelf(5, 30), 9, window)
		checkHeld(t, p)
		checkTold(t, p, 0, 0, api.OK)
	}
	for _, window := range []int{math.MinInt, -1, 0, 1, 17, 18, math.MaxInt} {
		for _, s := range []*shelf{newShelf(5, 30), newShelf(-1, 30), newShelf(5, 28)} {
			if p, err := New(s, counted(1), 9, window); p != nil || err != api.ErrArg {
				t.Errorf("window %d: %v, %d", window, p, err)
			}
			checkOrder(t, s)
		}
	}
}

// P13.1, P13.5: how many pages, and of which size, at the edges and beyond them.
func TestNewSpace(t *testing.T) {
	for _, pages := range []int{0, 1, api.MaxPages - 1, api.MaxPages} {
		for _, size := range []int{29, 30, 28 + 4095, 28 + 4096} {
			p := made(t, newShelf(pages, size), 9, 2)
			if p.Pages() != pages || p.Text() != size-28 {
				t.Errorf("of %d pages of %d bytes: %d of %d", pages, size, p.Pages(), p.Text())
			}
		}
	}
	wrong := []*shelf{
		newShelf(-1, 30), newShelf(math.MinInt, 30), newShelf(65537, 30), newShelf(math.MaxInt, 30),
		newShelf(4, 28), newShelf(4, 27), newShelf(4, 0), newShelf(4, -1), newShelf(4, math.MinInt), newShelf(4, 4125), newShelf(4, math.MaxInt),
		newShelf(-1, 28),
	}
	for _, s := range wrong {
		if p, err := New(s, counted(1), 9, 2); p != nil || err != api.ErrSpace {
			t.Errorf("of %d pages of %d bytes: %v, %d", s.pages, s.size, p, err)
		}
		checkOrder(t, s)
	}
}

// P13.1: Pages and Size are asked once each, by New; what the store says of them later changes nothing.
func TestAskedOnce(t *testing.T) {
	s := newShelf(4, 30)
	p := made(t, s, 9, 2)
	s.pages, s.size = 1, 31
	for number := range 4 {
		checkSave(t, p, api.OK, number, 1, byte(number))
	}
	checkLoad(t, p, 0, 1, 0)
	checkLoadRefused(t, p, 4, api.ErrArg)
	checkSave(t, p, api.ErrLength, 0, 1, 2, 3)
	checkFlush(t, p, api.OK)
	if p.Pages() != 4 || p.Text() != 2 {
		t.Errorf("Pages, Text = %d, %d", p.Pages(), p.Text())
	}
	if s.askedPages != 1 || s.askedSize != 1 {
		t.Errorf("Pages was asked %d times, Size %d times", s.askedPages, s.askedSize)
	}
}

// P13.2, P13.3: no such page; with a wrong text, too, it is that which is told. Neither is the death of a pager, or a use.
func TestNoSuchPage(t *testing.T) {
	for _, pages := range []int{0, 1, 4, api.MaxPages} {
		s := newShelf(pages, 30)
		p := made(t, s, 9, 2)
		for _, number := range []int{-1, pages, pages + 1, math.MinInt, math.MaxInt, 1 << 32} {
			checkLoadRefused(t, p, number, api.ErrArg)
			checkSave(t, p, api.ErrArg, number, 1, 2)
			checkSave(t, p, api.ErrArg, number, 1)
		}
		checkHeld(t, p)
		checkTold(t, p, 0, 0, api.OK)
		if pages > 0 {
			checkLoad(t, p, pages-1, 0, 0)
			checkSave(t, p, api.OK, pages-1, 3, 4)
			checkLoad(t, p, pages-1, 3, 4)
		}
		checkFlush(t, p, api.OK)
	}
}

// P13.3: a text of another length is refused, of a page that is held and of one that is not; nothing has changed.
func TestWrongLength(t *testing.T) {
	for _, size := range []int{29, 30, 60, 28 + 4096} {
		s := newShelf(4, size)
		p := made(t, s, 9, 2)
		right := bytes.Repeat([]byte{7}, p.Text())
		checkSave(t, p, api.OK, 0, right...)
		checkSave(t, p, api.OK, 1, right...)
		for _, wrong := range [][]byte{nil, {}, right[1:], append([]byte{1}, right...), make([]byte, size), make([]byte, 5000)} {
			for number := range 3 {
				checkSave(t, p, api.ErrLength, number, wrong...)
			}
		}
		checkHeld(t, p, 0, 1)
		checkTold(t, p, 2, 0, api.OK)
		checkOrder(t, s)
		checkLoad(t, p, 0, right...)
	}
}

// P13.2: of a page that is held nothing is asked, whether it is fresh, clean or changed.
func TestLoadHeld(t *testing.T) {
	s := newShelf(4, 30)
	p := made(t, s, 9, 3)
	checkLoad(t, p, 0, 0, 0)
	checkSave(t, p, api.OK, 1, 1, 1)
	checkFlush(t, p, api.OK)
	checkSave(t, p, api.OK, 2, 2, 2)
	checkOrder(t, s, 101)
	for range 3 {
		checkLoad(t, p, 0, 0, 0)
		checkLoad(t, p, 2, 2, 2)
		checkLoad(t, p, 1, 1, 1)
	}
	checkHeld(t, p, 0, 2, 1)
	checkOrder(t, s, 101)
	checkTold(t, p, 3, 1, api.OK)
}

// P13.2: a page that was never written comes as bytes 0, whatever lies at the store, which is not asked.
func TestLoadNeverWritten(t *testing.T) {
	s := newShelf(5, 40)
	for number := range 5 {
		s.laid[number] = [][]byte{bytes.Repeat([]byte{9}, 40)}
	}
	p := made(t, s, 9, 2)
	for range 2 {
		for number := range 5 {
			checkLoad(t, p, number, make([]byte, 12)...)
		}
	}
	checkOrder(t, s)
	checkHeld(t, p, 3, 4)
	checkTold(t, p, 2, 0, api.OK)
}

// P13.2: another pager's pages are not this one's: it has not written them.
func TestLoadOfAnotherPager(t *testing.T) {
	s := newShelf(4, 30)
	first := made(t, s, 9, 2)
	checkSave(t, first, api.OK, 0, 1, 2)
	checkFlush(t, first, api.OK)
	second := made(t, s, 10, 2)
	checkLoad(t, second, 0, 0, 0)
	checkOrder(t, s, 100)
}

// P13.2: a page that was written and has gone is read, and is clean then: it goes again without a write.
func TestLoadWritten(t *testing.T) {
	s := newShelf(5, 30)
	p := made(t, s, 9, 2)
	checkSave(t, p, api.OK, 0, 1, 2)
	checkLoad(t, p, 1, 0, 0)
	checkLoad(t, p, 2, 0, 0)
	checkOrder(t, s, 100)
	checkLoad(t, p, 0, 1, 2)
	checkOrder(t, s, 100, 0)
	checkHeld(t, p, 2, 0)
	checkLoad(t, p, 1, 0, 0)
	checkLoad(t, p, 2, 0, 0)
	checkOrder(t, s, 100, 0)
	checkLoad(t, p, 0, 1, 2)
	checkOrder(t, s, 100, 0, 0)
	checkTold(t, p, 2, 1, api.OK)
}

// P13.3: Save never reads; of a page that is held no room is made.
func TestSave(t *testing.T) {
	s := newShelf(5, 30)
	p := made(t, s, 9, 2)
	checkSave(t, p, api.OK, 0, 1, 0)
	checkSave(t, p, api.OK, 1, 1, 1)
	checkSave(t, p, api.OK, 0, 2, 0)
	checkHeld(t, p, 1, 0)
	checkOrder(t, s)
	checkLoad(t, p, 0, 2, 0)
	checkSave(t, p, api.OK, 2, 1, 2)
	checkOrder(t, s, 101)
	checkHeld(t, p, 0, 2)
	checkSave(t, p, api.OK, 1, 3, 1)
	checkOrder(t, s, 101, 100)
	checkLoad(t, p, 1, 3, 1)
	checkHeld(t, p, 2, 1)
	checkTold(t, p, 2, 2, api.OK)
	checkFlush(t, p, api.OK)
	checkOrder(t, s, 101, 100, 101, 102)
}

// P13.3: a clean page and a fresh one that are saved are changed, also if it is with the text that they had.
func TestSavedIsChanged(t *testing.T) {
	s := newShelf(5, 30)
	p := made(t, s, 9, 2)
	checkLoad(t, p, 0, 0, 0)
	checkSave(t, p, api.OK, 0, 0, 0)
	checkFlush(t, p, api.OK)
	checkOrder(t, s, 100)
	checkSave(t, p, api.OK, 0, 0, 0)
	checkFlush(t, p, api.OK)
	checkFlush(t, p, api.OK)
	checkOrder(t, s, 100, 100)
	checkTold(t, p, 1, 2, api.OK)
}

// P13.2, P13.3, P13.8: room is made of the page that was used longest ago; a changed one is written, another one is not.
func TestRoom(t *testing.T) {
	for window := 2; window <= 16; window++ {
		for _, saved := range []bool{false, true} {
			s := newShelf(40, 30)
			p := made(t, s, 9, window)
			var want []int
			for number := range 40 {
				if saved {
					checkSave(t, p, api.OK, number, 1, byte(number))
				} else {
					checkLoad(t, p, number, 0, 0)
				}
				if saved && number >= window {
					want = append(want, 100+number-window)
				}
				checkOrder(t, s, want...)
				if len(p.Held()) != min(number+1, window) || p.Most() != min(number+1, window) {
					t.Fatalf("window %d, %d pages asked for: %d held, %d at most", window, number+1, len(p.Held()), p.Most())
				}
			}
		}
	}
}

// P13.5: each Load and each Save that answers OK is a use; no other call is.
func TestUses(t *testing.T) {
	p := made(t, newShelf(6, 30), 9, 4)
	for number := range 4 {
		checkSave(t, p, api.OK, number, 1, byte(number))
	}
	checkHeld(t, p, 0, 1, 2, 3)
	checkSave(t, p, api.OK, 1, 1, 1)
	checkHeld(t, p, 0, 2, 3, 1)
	checkLoad(t, p, 0, 1, 0)
	checkHeld(t, p, 2, 3, 1, 0)
	checkLoad(t, p, 0, 1, 0)
	checkHeld(t, p, 2, 3, 1, 0)
	checkSave(t, p, api.ErrLength, 2, 1)
	checkLoadRefused(t, p, 6, api.ErrArg)
	checkFlush(t, p, api.OK)
	p.Most()
	p.Writes()
	checkHeld(t, p, 2, 3, 1, 0)
}

// P13.4: all changed pages, by rising number, however they were used; they stay held, and are not changed any more.
func TestFlush(t *testing.T) {
	s := newShelf(20, 30)
	p := made(t, s, 9, 6)
	checkFlush(t, p, api.OK)
	for _, number := range []int{13, 2, 7, 0} {
		checkSave(t, p, api.OK, number, 1, byte(number))
	}
	checkLoad(t, p, 5, 0, 0)
	checkLoad(t, p, 13, 1, 13)
	checkOrder(t, s)
	checkFlush(t, p, api.OK)
	checkOrder(t, s, 100, 102, 107, 113)
	checkHeld(t, p, 2, 7, 0, 5, 13)
	checkTold(t, p, 5, 4, api.OK)
	checkFlush(t, p, api.OK)
	checkSave(t, p, api.OK, 7, 2, 7)
	checkSave(t, p, api.OK, 2, 2, 2)
	checkFlush(t, p, api.OK)
	checkOrder(t, s, 100, 102, 107, 113, 102, 107)
	checkTold(t, p, 5, 6, api.OK)
	for number := range 20 {
		p.Load(number)
	}
	checkTold(t, p, 6, 6, api.OK)
}

// P13.9, and what a page is written as: the round, the count of writes, the page's own count, under the key.
func TestPlaces(t *testing.T) {
	for _, round := range []uint64{0, 1, 0x0102030405060708, math.MaxUint64} {
		s := newShelf(300, 33)
		p := made(t, s, round, 2)
		texts := map[int][]byte{}
		for turn := range 3 {
			for _, number := range []int{0, 299, 257, 3, 0} {
				text := []byte{byte(turn), byte(number), byte(number >> 8), 4, byte(len(s.deeds))}
				checkSave(t, p, api.OK, number, text...)
				texts[number] = text
				checkFlush(t, p, api.OK)
				box := []byte(s.deeds[len(s.deeds)-1].box)
				head := octet.PutLittle(octet.PutLittle(nil, round), uint32(len(s.deeds)-1))
				if len(box) != 33 || !bytes.Equal(box[:12], head) {
					t.Fatalf("the write %d is %d bytes that begin with %x, want %x", len(s.deeds)-1, len(box), box[:12], head)
				}
				place := api.Place{Round: round, Counter: uint32(len(s.deeds) - 1), Page: uint32(number), Version: uint32(len(s.laid[number]))}
				opened, err := page.Open(counted(1), place, box)
				if err != api.OK || !bytes.Equal(opened, text) {
					t.Fatalf("at %v: %x, %d, want %x", place, opened, err, text)
				}
			}
		}
		if int(p.Writes()) != len(s.deeds) {
			t.Fatalf("%d writes, told are %d", len(s.deeds), p.Writes())
		}
		for number, text := range texts {
			checkLoad(t, p, number, text...)
		}
	}
}

// P13.9: what is asked of the store hangs neither on texts nor on keys nor on the round.
func TestSameOrder(t *testing.T) {
	live := func(key api.Key, round uint64, fill byte, size int) []int {
		s := newShelf(9, size)
		p, _ := New(s, key, round, 3)
		for step := range 300 {
			number := step * step % 11 * (step % 7) % 9
			switch step % 5 {
			case 0, 1:
				p.Save(number, bytes.Repeat([]byte{fill * byte(step)}, p.Text()))
			case 2, 3:
				p.Load(number)
			case 4:
				if step%3 == 0 {
					p.Flush()
				}
			}
		}
		return s.order()
	}
	want := live(counted(1), 9, 0, 30)
	if len(want) < 50 {
		t.Fatalf("%d deeds", len(want))
	}
	for _, got := range [][]int{live(counted(1), 9, 1, 30), live(counted(7), 9, 3, 30), live(api.Key{}, 0, 5, 1000), live(counted(9), math.MaxUint64, 0, 29)} {
		if !slices.Equal(got, want) {
			t.Fatalf("the store was asked for %v, and for %v", got, want)
		}
	}
}

// R3: every call of a nil pager; and a store that is nil.
func TestNil(t *testing.T) {
	var p *Pager
	for _, number := range []int{0, -1, 5} {
		checkLoadRefused(t, p, number, api.ErrNil)
		checkSave(t, p, api.ErrNil, number, 1, 2)
		checkSave(t, p, api.ErrNil, number)
	}
	checkFlush(t, p, api.ErrNil)
	checkHeld(t, p)
	checkTold(t, p, 0, 0, api.ErrNil)
	if p.Pages() != 0 || p.Text() != 0 {
		t.Errorf("Pages, Text = %d, %d", p.Pages(), p.Text())
	}
	if made, err := New(nil, counted(1), 9, 2); made != nil || err != api.ErrNil {
		t.Errorf("over no store: %v, %d", made, err)
	}
}
