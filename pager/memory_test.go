package pager

import (
	"bytes"
	"testing"

	"tryst/api"
)

// overwrite goes up to the end of the room that a list has.
func overwrite[T byte | int](b []T) {
	b = b[:cap(b)]
	for i := range b {
		b[i] ^= 0x5a
	}
}

// R5: a text that is handed in stays as it is, with the room behind its end, and is not kept.
func TestTextsStay(t *testing.T) {
	s := newShelf(4, 30)
	p := made(t, s, 9, 2)
	room := []byte{1, 2, 3, 4, 5}
	for number := range 4 {
		if err := p.Save(number, room[:2]); err != api.OK {
			t.Fatalf("Save: %d", err)
		}
		p.Save(number, room[:3])
		p.Flush()
		p.Load(0)
	}
	if !bytes.Equal(room, []byte{1, 2, 3, 4, 5}) {
		t.Fatalf("the text that was handed in: %x", room)
	}
	overwrite(room)
	for number := range 4 {
		checkLoad(t, p, number, 1, 2)
	}
}

// R5: a text that is kept, changed, is not the one that was handed in.
func TestTextsAreNotKept(t *testing.T) {
	p := made(t, newShelf(4, 30), 9, 2)
	text := []byte{1, 2}
	if err := p.Save(0, text); err != api.OK {
		t.Fatalf("Save: %d", err)
	}
	overwrite(text)
	checkLoad(t, p, 0, 1, 2)
	checkSave(t, p, api.OK, 0, 3, 4)
	checkLoad(t, p, 0, 3, 4)
}

// R5: what is answered is new memory each time: of a page that is fresh, changed, clean, and read.
func TestAnswersAreTheirOwn(t *testing.T) {
	s := newShelf(4, 30)
	p := made(t, s, 9, 2)
	check := func(number int, want ...byte) {
		t.Helper()
		for range 3 {
			text, err := p.Load(number)
			if err != api.OK || !bytes.Equal(text, want) {
				t.Fatalf("Load(%d) = %x, %d, want %x", number, text, err, want)
			}
			overwrite(text)
			held := p.Held()
			overwrite(held)
		}
	}
	check(0, 0, 0)
	checkSave(t, p, api.OK, 1, 5, 6)
	check(1, 5, 6)
	checkFlush(t, p, api.OK)
	check(1, 5, 6)
	check(2, 0, 0)
	check(3, 0, 0)
	check(1, 5, 6)
	check(0, 0, 0)
	checkHeld(t, p, 1, 0)
	checkOrder(t, s, 101, 1)
}

// R5: neither what is handed to the store nor what it answers shares memory with what the pager keeps.
func TestStoreSharesNothing(t *testing.T) {
	s := newShelf(4, 30)
	p := made(t, s, 9, 2)
	spoil := func() {
		for _, b := range s.handed {
			overwrite(b)
		}
		s.handed = nil
	}
	checkSave(t, p, api.OK, 0, 1, 0)
	checkSave(t, p, api.OK, 1, 1, 1)
	checkFlush(t, p, api.OK)
	spoil()
	checkLoad(t, p, 0, 1, 0)
	checkLoad(t, p, 1, 1, 1)
	checkLoad(t, p, 2, 0, 0)
	checkLoad(t, p, 3, 0, 0)
	checkLoad(t, p, 0, 1, 0)
	checkLoad(t, p, 1, 1, 1)
	spoil()
	checkLoad(t, p, 0, 1, 0)
	checkLoad(t, p, 1, 1, 1)
	checkOrder(t, s, 100, 101, 0, 1)
}

// R5: what the store has handed out is not changed, nor the room behind its end.
func TestStoreStays(t *testing.T) {
	s := newShelf(4, 30)
	p := made(t, s, 9, 2)
	checkSave(t, p, api.OK, 0, 1, 0)
	checkFlush(t, p, api.OK)
	var room []byte
	s.lie[1] = func(right []byte) []byte {
		room = append(right, 1, 2, 3, 4)
		return room[:30]
	}
	p.Load(1)
	p.Load(2)
	checkLoad(t, p, 0, 1, 0)
	checkSave(t, p, api.OK, 0, 2, 0)
	checkFlush(t, p, api.OK)
	if want := append(bytes.Clone(s.laid[0][0]), 1, 2, 3, 4); !bytes.Equal(room, want) {
		t.Fatalf("what the store answered: %x, was %x", room, want)
	}
}

// R6: two pagers that live the same way over stores that do tell the same, and are two.
func TestTwoPagers(t *testing.T) {
	one, other := newShelf(4, 30), newShelf(4, 30)
	p, q := made(t, one, 9, 2), made(t, other, 9, 2)
	for number := range 4 {
		checkSave(t, p, api.OK, number, 1, byte(number))
		checkSave(t, q, api.OK, number, 1, byte(number))
	}
	checkFlush(t, p, api.OK)
	checkHeld(t, q, 2, 3)
	checkTold(t, q, 2, 2, api.OK)
	checkFlush(t, q, api.OK)
	for i := range one.deeds {
		if one.deeds[i] != other.deeds[i] {
			t.Fatalf("the deed %d: %v, %v", i, one.deeds[i], other.deeds[i])
		}
	}
}
