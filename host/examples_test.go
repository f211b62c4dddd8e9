package host

import (
	"bytes"
	"slices"
	"testing"

	"tryst/api"
)

// made is a host of 2 pages of 3 bytes, as the chapter's table has it.
func made(t *testing.T, faults ...api.Fault) *Host {
	t.Helper()
	return hostOf(t, 2, 3, faults...)
}

func hostOf(t *testing.T, pages, size int, faults ...api.Fault) *Host {
	t.Helper()
	h, err := New(pages, size, faults)
	if err != api.OK || h == nil {
		t.Fatalf("New(%d, %d, %d faults): %d", pages, size, len(faults), err)
	}
	return h
}

func checkRead(t *testing.T, h *Host, page int, want ...byte) {
	t.Helper()
	if b, err := h.Read(page); err != api.OK || !bytes.Equal(b, want) {
		t.Fatalf("Read(%d) = %v, %d, want %v", page, b, err, want)
	}
}

func checkReadRefused(t *testing.T, h *Host, page int, want api.Errno) {
	t.Helper()
	if b, err := h.Read(page); err != want || len(b) != 0 {
		t.Fatalf("Read(%d) = %v, %d, want %d", page, b, err, want)
	}
}

func checkWrite(t *testing.T, h *Host, page int, b []byte, want api.Errno) {
	t.Helper()
	if err := h.Write(page, b); err != want {
		t.Fatalf("Write(%d, %v) = %d, want %d", page, b, err, want)
	}
}

func checkAsk(t *testing.T, h *Host, want uint64, fault api.Errno) {
	t.Helper()
	if v, err := h.Ask(); v != want || err != fault {
		t.Fatalf("Ask = %d, %d, want %d, %d", v, err, want, fault)
	}
}

func checkRaise(t *testing.T, h *Host, v uint64, want api.Errno) {
	t.Helper()
	if err := h.Raise(v); err != want {
		t.Fatalf("Raise(%d) = %d, want %d", v, err, want)
	}
}

func checkOps(t *testing.T, h *Host, want int, down bool) {
	t.Helper()
	for range 2 { // asking changes nothing
		if h.Ops() != want || h.Down() != down {
			t.Fatalf("%d operations, down %t, want %d, %t", h.Ops(), h.Down(), want, down)
		}
	}
}

func checkLies(t *testing.T, h *Host, page int, want ...byte) {
	t.Helper()
	for range 2 {
		if b := h.Lies(page); !bytes.Equal(b, want) {
			t.Fatalf("Lies(%d) = %v, want %v", page, b, want)
		}
	}
}

func checkLog(t *testing.T, h *Host, want ...api.Touch) {
	t.Helper()
	for range 2 {
		if log := h.Log(); !slices.Equal(log, want) {
			t.Fatalf("the log = %v, want %v", log, want)
		}
	}
}

// The touches of a host whose pages have 3 bytes.

func readOf(page int) api.Touch { return api.Touch{Op: api.OpRead, Page: page, Length: 3} }

func writeOf(page int, b ...byte) api.Touch {
	touch := api.Touch{Op: api.OpWrite, Page: page, Length: 3}
	copy(touch.Head[:], b)
	return touch
}

func askOf() api.Touch { return api.Touch{Op: api.OpAsk, Length: 8} }

func raiseOf() api.Touch { return api.Touch{Op: api.OpRaise, Length: 8} }

// The chapter's table of examples, row by row.

func TestExamplesOfNew(t *testing.T) {
	for _, c := range []struct {
		pages, size int
		faults      []api.Fault
	}{
		{-1, 3, nil}, {2, 0, nil}, {2, 4125, nil}, {2, 3, []api.Fault{{Kind: 5}}},
	} {
		if h, err := New(c.pages, c.size, c.faults); h != nil || err != api.ErrArg {
			t.Errorf("New(%d, %d, %v) = %d", c.pages, c.size, c.faults, err)
		}
	}
}

func TestExamplesOfPages(t *testing.T) {
	h := made(t)
	checkRead(t, h, 0, 0, 0, 0)
	checkWrite(t, h, 0, []byte{1, 2, 3}, api.OK)
	checkRead(t, h, 0, 1, 2, 3)
	checkReadRefused(t, h, 2, api.ErrArg)
	checkWrite(t, h, 1, []byte{1, 2}, api.ErrLength)
	checkOps(t, h, 3, false)
}

func TestExamplesOfTheRegister(t *testing.T) {
	h := made(t)
	checkRaise(t, h, 5, api.OK)
	checkRaise(t, h, 5, api.ErrRegister)
	checkAsk(t, h, 5, api.OK)
	checkRaise(t, h, 4, api.ErrRegister)
	checkAsk(t, h, 5, api.OK)
	checkOps(t, h, 5, false)
}

func TestExamplesOfSpoiltReads(t *testing.T) {
	h := made(t, api.Fault{At: 1, Kind: api.FtTurn, Byte: 2, By: 255})
	checkWrite(t, h, 0, []byte{1, 2, 3}, api.OK)
	checkRead(t, h, 0, 1, 2, 252)
	checkRead(t, h, 0, 1, 2, 3)

	for back, want := range map[int][]byte{1: {1, 2, 3}, 2: {0, 0, 0}, 3: {0, 0, 0}} {
		h = made(t, api.Fault{At: 2, Kind: api.FtStale, Back: back})
		checkWrite(t, h, 0, []byte{1, 2, 3}, api.OK)
		checkWrite(t, h, 0, []byte{4, 5, 6}, api.OK)
		checkRead(t, h, 0, want...)
	}

	h = made(t, api.Fault{At: 1, Kind: api.FtMove, Page: 1})
	checkWrite(t, h, 0, []byte{1, 2, 3}, api.OK)
	checkRead(t, h, 0, 0, 0, 0)
}

func TestExamplesOfThePower(t *testing.T) {
	h := made(t, api.Fault{At: 0, Kind: api.FtBefore})
	checkWrite(t, h, 0, []byte{1, 2, 3}, api.ErrDown)
	checkReadRefused(t, h, 0, api.ErrDown)
	checkOps(t, h, 1, true)
	h.Restart()
	checkRead(t, h, 0, 0, 0, 0)
	checkOps(t, h, 2, false)
	checkLog(t, h, readOf(0))

	h = made(t, api.Fault{At: 0, Kind: api.FtBehind})
	checkRaise(t, h, 7, api.ErrDown)
	h.Restart()
	checkAsk(t, h, 7, api.OK)
}

func TestExamplesOfANilHost(t *testing.T) {
	var h *Host
	checkReadRefused(t, h, 0, api.ErrNil)
	checkWrite(t, h, 0, nil, api.ErrNil)
	checkAsk(t, h, 0, api.ErrNil)
	checkRaise(t, h, 1, api.ErrNil)
	if h.Pages() != 0 {
		t.Errorf("Pages = %d", h.Pages())
	}
	checkLies(t, h, 0)
}
