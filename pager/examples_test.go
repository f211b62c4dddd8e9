package pager

import (
	"bytes"
	"slices"
	"testing"

	"tryst/api"
	"tryst/host"
)

// counted is a key of rising bytes.
func counted(from byte) api.Key {
	var key api.Key
	for i := range key {
		key[i] = from + byte(i)
	}
	return key
}

func made(t *testing.T, s api.Store, round uint64, window int) *Pager {
	t.Helper()
	p, err := New(s, counted(1), round, window)
	if err != api.OK || p == nil {
		t.Fatalf("New with window %d: %v, %d", window, p, err)
	}
	return p
}

func checkLoad(t *testing.T, p *Pager, page int, want ...byte) {
	t.Helper()
	if text, err := p.Load(page); err != api.OK || !bytes.Equal(text, want) {
		t.Fatalf("Load(%d) = %x, %d, want %x", page, text, err, want)
	}
}

func checkLoadRefused(t *testing.T, p *Pager, page int, want api.Errno) {
	t.Helper()
	if text, err := p.Load(page); err != want || len(text) != 0 {
		t.Fatalf("Load(%d) = %x, %d, want %d", page, text, err, want)
	}
}

func checkSave(t *testing.T, p *Pager, want api.Errno, page int, text ...byte) {
	t.Helper()
	if err := p.Save(page, text); err != want {
		t.Fatalf("Save(%d, %x) = %d, want %d", page, text, err, want)
	}
}

func checkFlush(t *testing.T, p *Pager, want api.Errno) {
	t.Helper()
	if err := p.Flush(); err != want {
		t.Fatalf("Flush() = %d, want %d", err, want)
	}
}

func checkHeld(t *testing.T, p *Pager, want ...int) {
	t.Helper()
	if got := p.Held(); !slices.Equal(got, want) {
		t.Fatalf("Held() = %v, want %v", got, want)
	}
}

// checkTold holds what a pager tells of itself, but for Held.
func checkTold(t *testing.T, p *Pager, most int, writes uint32, err api.Errno) {
	t.Helper()
	if p.Most() != most || p.Writes() != writes || p.Err() != err {
		t.Fatalf("Most, Writes, Err = %d, %d, %d, want %d, %d, %d", p.Most(), p.Writes(), p.Err(), most, writes, err)
	}
}

// The chapter's table of examples, row by row: a host of 4 pages of 30 bytes, the round 9, window 2.

func TestExamplesOfNew(t *testing.T) {
	h, _ := host.New(4, 30, nil)
	for _, window := range []int{1, 17} {
		if p, err := New(h, counted(1), 9, window); p != nil || err != api.ErrArg {
			t.Errorf("window %d: %v, %d", window, p, err)
		}
	}
	small, _ := host.New(4, 28, nil)
	if p, err := New(small, counted(1), 9, 2); p != nil || err != api.ErrSpace {
		t.Errorf("pages of 28 bytes: %v, %d", p, err)
	}
}

// upToTheReads does the rows of the table up to the one that reads.
func upToTheReads(t *testing.T, h *host.Host) *Pager {
	t.Helper()
	seen := func(want ...api.Touch) {
		t.Helper()
		if got := h.Log(); !slices.Equal(got, want) {
			t.Fatalf("the host saw %v, want %v", got, want)
		}
	}
	p := made(t, h, 9, 2)
	checkLoadRefused(t, p, 4, api.ErrArg)
	checkSave(t, p, api.ErrLength, 0, 1)
	checkLoad(t, p, 0, 0, 0)
	checkSave(t, p, api.OK, 1, 5, 6)
	checkHeld(t, p, 0, 1)
	checkLoad(t, p, 2, 0, 0)
	checkHeld(t, p, 1, 2)
	checkLoad(t, p, 1, 5, 6)
	checkSave(t, p, api.OK, 3, 7, 8)
	checkHeld(t, p, 1, 3)
	seen()

	first := api.Touch{Op: api.OpWrite, Page: 1, Length: 30, Head: api.Nonce{0: 9}}
	second := api.Touch{Op: api.OpWrite, Page: 3, Length: 30, Head: api.Nonce{0: 9, 8: 1}}
	checkLoad(t, p, 0, 0, 0)
	seen(first)
	checkLoad(t, p, 1, 5, 6)
	seen(first, second, api.Touch{Op: api.OpRead, Page: 1, Length: 30})
	checkTold(t, p, 2, 2, api.OK)
	checkFlush(t, p, api.OK)
	if h.Ops() != 3 {
		t.Fatalf("Flush with no page changed: %d operations", h.Ops())
	}
	return p
}

func TestExamplesOfCalls(t *testing.T) {
	h, _ := host.New(4, 30, nil)
	p := upToTheReads(t, h)
	checkLoad(t, p, 3, 7, 8)
	checkHeld(t, p, 1, 3)
}

func TestExamplesOfAnotherByte(t *testing.T) {
	for at := range 30 {
		h, _ := host.New(4, 30, []api.Fault{{At: 3, Kind: api.FtTurn, Byte: at, By: 1}})
		p := upToTheReads(t, h)
		for range 2 {
			checkLoadRefused(t, p, 3, api.ErrIntegrity)
			checkLoadRefused(t, p, 1, api.ErrIntegrity)
			checkSave(t, p, api.ErrIntegrity, 1, 5, 6)
			checkFlush(t, p, api.ErrIntegrity)
		}
		if h.Ops() != 4 {
			t.Fatalf("the byte %d: %d operations", at, h.Ops())
		}
	}
}
