package pager

import (
	"bytes"
	"math"
	"slices"
	"testing"

	"tryst/api"
	"tryst/host"
	"tryst/page"
)

// errnos are what a store may refuse with: those of other layers, those that the pager itself has, those that nobody has.
var errnos = []api.Errno{api.ErrDown, api.ErrNil, api.ErrArg, api.ErrLength, api.ErrSpace, api.ErrIntegrity, api.ErrWrites, -1, 1 << 40}

// checkDead holds every call of a dead pager: Load, Save and Flush do nothing, whatever they are given, and all else is as it was.
func checkDead(t *testing.T, s *shelf, p *Pager, want api.Errno) {
	t.Helper()
	held, most, writes, deeds := p.Held(), p.Most(), p.Writes(), len(s.deeds)
	pages, text := p.Pages(), p.Text()
	for range 2 {
		for _, number := range []int{-1, 0, 1, 2, 3, pages, math.MaxInt} {
			checkLoadRefused(t, p, number, want)
			checkSave(t, p, want, number, make([]byte, text)...)
			checkSave(t, p, want, number)
		}
		checkFlush(t, p, want)
	}
	checkHeld(t, p, held...)
	checkTold(t, p, most, writes, want)
	if p.Pages() != pages || p.Text() != text || len(s.deeds) != deeds {
		t.Fatalf("Pages, Text = %d, %d; %d deeds behind its death", p.Pages(), p.Text(), len(s.deeds)-deeds)
	}
}

// twoGone is a pager that has written the pages 0 and 1, and holds 2 and 3; only 3 is changed.
func twoGone(t *testing.T, s *shelf) *Pager {
	t.Helper()
	p := made(t, s, 9, 2)
	checkSave(t, p, api.OK, 0, 1, 0)
	checkSave(t, p, api.OK, 1, 1, 1)
	checkLoad(t, p, 2, 0, 0)
	checkSave(t, p, api.OK, 3, 1, 3)
	checkOrder(t, s, 100, 101)
	checkHeld(t, p, 2, 3)
	return p
}

// P13.6, R9: a Read that is refused, whatever comes with it. The page that made room has gone.
func TestReadRefused(t *testing.T) {
	for _, want := range errnos {
		for _, right := range []bool{false, true} {
			s := newShelf(4, 30)
			p := twoGone(t, s)
			s.refuse[2] = want
			if !right {
				s.lie[2] = func([]byte) []byte { return nil }
			}
			checkLoadRefused(t, p, 0, want)
			checkOrder(t, s, 100, 101, 0)
			checkHeld(t, p, 3)
			checkTold(t, p, 2, 2, want)
			checkDead(t, s, p, want)
		}
	}
}

// P13.6: behind a write on the way to room that was well, a Read that is refused: what was written has been.
func TestReadRefusedBehindAWrite(t *testing.T) {
	for _, want := range errnos {
		s := newShelf(4, 30)
		p := twoGone(t, s)
		checkLoad(t, p, 2, 0, 0)
		s.refuse[3] = want
		checkLoadRefused(t, p, 1, want)
		checkOrder(t, s, 100, 101, 103, 1)
		checkHeld(t, p, 2)
		checkTold(t, p, 2, 3, want)
		checkDead(t, s, p, want)
	}
}

// P13.6: a write on the way to room that is refused: the page that was to go stays, the other one does not come.
func TestRoomRefused(t *testing.T) {
	for _, want := range errnos {
		for _, ask := range []func(p *Pager) api.Errno{
			func(p *Pager) api.Errno { return p.Save(2, []byte{1, 2}) },
			func(p *Pager) api.Errno { _, err := p.Load(2); return err },
			func(p *Pager) api.Errno { _, err := p.Load(0); return err },
		} {
			s := newShelf(4, 30)
			p := made(t, s, 9, 2)
			for _, number := range []int{0, 3, 1} {
				checkSave(t, p, api.OK, number, 1, byte(number))
			}
			s.refuse[1] = want
			if err := ask(p); err != want {
				t.Fatalf("%d, want %d", err, want)
			}
			checkOrder(t, s, 100, 103)
			checkHeld(t, p, 3, 1)
			checkTold(t, p, 2, 1, want)
			checkDead(t, s, p, want)
		}
	}
}

// P13.6: any Write of a Flush that is refused: those ahead of it have been written, those behind it are not.
func TestFlushRefused(t *testing.T) {
	for _, want := range errnos {
		for at := range 4 {
			s := newShelf(9, 30)
			p := made(t, s, 9, 5)
			for _, number := range []int{8, 1, 6, 3} {
				checkSave(t, p, api.OK, number, 1, byte(number))
			}
			s.refuse[at] = want
			checkFlush(t, p, want)
			checkOrder(t, s, []int{101, 103, 106, 108}[:at+1]...)
			checkHeld(t, p, 8, 1, 6, 3)
			checkTold(t, p, 4, uint32(at), want)
			checkDead(t, s, p, want)
		}
	}
}

// P13.6: a pager of a host whose power went stays dead behind the restart; of a write behind which it went nothing is counted.
func TestPowerGoes(t *testing.T) {
	for _, kind := range []int{api.FtBefore, api.FtBehind} {
		h, _ := host.New(4, 30, []api.Fault{{At: 1, Kind: kind}})
		p := made(t, h, 9, 2)
		checkSave(t, p, api.OK, 0, 1, 0)
		checkSave(t, p, api.OK, 1, 1, 1)
		checkFlush(t, p, api.ErrDown)
		h.Restart()
		checkLoadRefused(t, p, 0, api.ErrDown)
		checkFlush(t, p, api.ErrDown)
		checkHeld(t, p, 0, 1)
		checkTold(t, p, 2, 1, api.ErrDown)
	}
}

// P13.2, P13.6: what a store answers that is not what was written there last.
func TestSpoilt(t *testing.T) {
	sealed := func(place api.Place, text ...byte) []byte {
		box, _ := page.Seal(counted(1), place, text)
		return box
	}
	lies := map[string]func(s *shelf, right []byte) []byte{
		"another page":             func(s *shelf, right []byte) []byte { return s.laid[1][0] },
		"an older one":             func(s *shelf, right []byte) []byte { return s.laid[0][0] },
		"none":                     func(s *shelf, right []byte) []byte { return nil },
		"no bytes":                 func(s *shelf, right []byte) []byte { return []byte{} },
		"a byte too few":           func(s *shelf, right []byte) []byte { return right[:29] },
		"a byte too few in front":  func(s *shelf, right []byte) []byte { return right[1:] },
		"a byte too many":          func(s *shelf, right []byte) []byte { return append(right, 0) },
		"a byte too many in front": func(s *shelf, right []byte) []byte { return append([]byte{9}, right...) },
		"far too many":             func(s *shelf, right []byte) []byte { return make([]byte, 1<<20) },
		"zeros":                    func(s *shelf, right []byte) []byte { return make([]byte, 30) },
		"its head alone":           func(s *shelf, right []byte) []byte { return right[:12] },
		"the right text as older": func(s *shelf, right []byte) []byte {
			return sealed(api.Place{Round: 9, Counter: 2, Page: 0, Version: 1}, 2, 0)
		},
		"the right text as newer": func(s *shelf, right []byte) []byte {
			return sealed(api.Place{Round: 9, Counter: 2, Page: 0, Version: 3}, 2, 0)
		},
		"the right text of another": func(s *shelf, right []byte) []byte {
			return sealed(api.Place{Round: 9, Counter: 2, Page: 1, Version: 2}, 2, 0)
		},
		"the right text, another round": func(s *shelf, right []byte) []byte {
			return sealed(api.Place{Round: 8, Counter: 2, Page: 0, Version: 2}, 2, 0)
		},
		"the right text, another write": func(s *shelf, right []byte) []byte {
			return sealed(api.Place{Round: 9, Counter: 3, Page: 0, Version: 2}, 2, 0)
		},
	}
	for what, lie := range lies {
		s, p := writtenTwice(t)
		s.lie[4] = func(right []byte) []byte { return lie(s, right) }
		if text, err := p.Load(0); err != api.ErrIntegrity || len(text) != 0 {
			t.Fatalf("%s: %x, %d", what, text, err)
		}
		checkOrder(t, s, 100, 101, 100, 103, 0)
		checkHeld(t, p, 2)
		checkTold(t, p, 2, 4, api.ErrIntegrity)
		checkDead(t, s, p, api.ErrIntegrity)
	}
	for at := range 30 {
		s, p := writtenTwice(t)
		s.lie[4] = func(right []byte) []byte {
			right[at] ^= 1 << (at % 8)
			return right
		}
		checkLoadRefused(t, p, 0, api.ErrIntegrity)
		checkDead(t, s, p, api.ErrIntegrity)
	}
	s, p := writtenTwice(t)
	s.lie[4] = func([]byte) []byte { return sealed(api.Place{Round: 9, Counter: 2, Page: 0, Version: 2}, 2, 0) }
	checkLoad(t, p, 0, 2, 0)
	checkHeld(t, p, 2, 0)
}

// writtenTwice is a pager that has written 0, 1 and 0 again, and lets 3 go with what comes next.
func writtenTwice(t *testing.T) (*shelf, *Pager) {
	t.Helper()
	s := newShelf(4, 30)
	p := made(t, s, 9, 2)
	checkSave(t, p, api.OK, 0, 1, 0)
	checkSave(t, p, api.OK, 1, 1, 1)
	checkFlush(t, p, api.OK)
	checkSave(t, p, api.OK, 0, 2, 0)
	checkFlush(t, p, api.OK)
	checkSave(t, p, api.OK, 3, 1, 3)
	checkLoad(t, p, 2, 0, 0)
	checkHeld(t, p, 3, 2)
	return s, p
}

// P13.6: a pager that died does not harm another one over the same store.
func TestAnotherPagerLives(t *testing.T) {
	s := newShelf(4, 30)
	p := twoGone(t, s)
	s.refuse[2] = api.ErrDown
	checkLoadRefused(t, p, 0, api.ErrDown)
	other := made(t, s, 10, 2)
	for number := range 4 {
		checkSave(t, other, api.OK, number, 3, byte(number))
	}
	for number := range 4 {
		checkLoad(t, other, number, 3, byte(number))
	}
	checkTold(t, p, 2, 2, api.ErrDown)
}

// P13.6, and what writing is: with 2^32 - 1 writes behind it a pager writes no more, but the last of these it does.
func TestWritesUsedUp(t *testing.T) {
	for _, ask := range []func(p *Pager) api.Errno{
		func(p *Pager) api.Errno { return p.Save(2, []byte{1, 2}) },
		func(p *Pager) api.Errno { _, err := p.Load(2); return err },
		func(p *Pager) api.Errno { return p.Flush() },
	} {
		s := newShelf(4, 30)
		p := made(t, s, 9, 2)
		p.writes = math.MaxUint32 - 1 // so many writes would take too long
		checkSave(t, p, api.OK, 0, 1, 0)
		checkFlush(t, p, api.OK)
		if head := []byte(s.deeds[0].box)[:12]; !bytes.Equal(head, []byte{9, 0, 0, 0, 0, 0, 0, 0, 0xfe, 0xff, 0xff, 0xff}) {
			t.Fatalf("the last write begins with %x", head)
		}
		checkTold(t, p, 1, math.MaxUint32, api.OK)
		checkSave(t, p, api.OK, 0, 2, 0)
		checkSave(t, p, api.OK, 1, 2, 1)
		checkLoad(t, p, 0, 2, 0)
		checkLoad(t, p, 1, 2, 1)
		checkTold(t, p, 2, math.MaxUint32, api.OK)
		if err := ask(p); err != api.ErrWrites {
			t.Fatalf("%d", err)
		}
		checkOrder(t, s, 100)
		checkHeld(t, p, 0, 1)
		checkTold(t, p, 2, math.MaxUint32, api.ErrWrites)
		checkDead(t, s, p, api.ErrWrites)
	}
}

// P13.6: with the writes used up, pages that are not changed come and go as ever.
func TestWritesUsedUpButNothingToWrite(t *testing.T) {
	s := newShelf(5, 30)
	p := made(t, s, 9, 2)
	p.writes = math.MaxUint32 - 1
	checkSave(t, p, api.OK, 0, 1, 0)
	checkFlush(t, p, api.OK)
	for number := range 5 {
		p.Load(number)
	}
	checkLoad(t, p, 0, 1, 0)
	checkFlush(t, p, api.OK)
	checkTold(t, p, 2, math.MaxUint32, api.OK)
	if !slices.Equal(s.order(), []int{100, 0}) {
		t.Fatalf("%v", s.order())
	}
}
