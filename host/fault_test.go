package host

import (
	"math"
	"testing"

	"tryst/api"
)

// operation does one of each sort of a host of 2 pages of 3 bytes.
func operation(h *Host, op int) api.Errno {
	switch op {
	case api.OpRead:
		_, err := h.Read(0)
		return err
	case api.OpWrite:
		return h.Write(0, []byte{1, 2, 3})
	case api.OpAsk:
		_, err := h.Ask()
		return err
	}
	return h.Raise(uint64(h.Ops()) + 1)
}

// P11.2: the byte number Byte, if there is one, is changed where By has a 1.
func TestTurn(t *testing.T) {
	for _, size := range []int{1, 3, 40} {
		for _, at := range []int{math.MinInt, -1, 0, 1, size - 1, size, size + 1, math.MaxInt} {
			for _, by := range []uint8{0, 1, 0x80, 0x5a, 255} {
				h := hostOf(t, 1, size, api.Fault{At: 1, Kind: api.FtTurn, Byte: at, By: by, Page: 7, Back: 7})
				b := counted(9, size)
				checkWrite(t, h, 0, b, api.OK)
				want := counted(9, size)
				if at >= 0 && at < size {
					want[at] ^= by
				}
				checkRead(t, h, 0, want...)
				checkLies(t, h, 0, b...)
				checkRead(t, h, 0, b...)
			}
		}
	}
}

// P11.2: what lay there Back writes ago: below 1, up to as many writes as there were, and more.
func TestStale(t *testing.T) {
	for writes := range 6 {
		for _, back := range []int{math.MinInt, -1, 0, 1, 2, 3, 4, 5, 6, 7, math.MaxInt - 1, math.MaxInt} {
			h := made(t, api.Fault{At: 2 * writes, Kind: api.FtStale, Back: back, Page: 1, Byte: 1, By: 1})
			for i := range writes {
				checkWrite(t, h, 0, []byte{byte(i + 1), 0, 0}, api.OK)
				checkWrite(t, h, 1, []byte{99, 99, 99}, api.OK) // of another page: it does not count
			}
			want := byte(writes)
			if back >= 1 {
				want = byte(max(writes-back, 0))
			}
			checkRead(t, h, 0, want, 0, 0)
			checkRead(t, h, 0, byte(writes), 0, 0)
			checkLies(t, h, 0, byte(writes), 0, 0)
		}
	}
}

// P11.2: one that looks deeply and one that does not, at one page's reads, while it is written on.
func TestStaleOfSeveralDepths(t *testing.T) {
	faults := []api.Fault{{At: -1, Kind: api.FtStale, Back: 50}, {At: 3, Kind: api.FtTurn, Back: 60}}
	for i := range 40 {
		faults = append(faults, api.Fault{At: 2*i + 1, Kind: api.FtStale, Back: i * 7 % 11})
	}
	h := made(t, faults...)
	for i := range 40 {
		checkWrite(t, h, 1, []byte{byte(i + 1), 0, 0}, api.OK)
		checkRead(t, h, 1, byte(max(i+1-i*7%11, 0)), 0, 0)
	}
}

// P11.2: what a write that the power cut off from its answer has laid counts, what it kept from being done does not.
func TestStaleCountsWritesThatWereDone(t *testing.T) {
	for kind, want := range map[int]byte{api.FtBefore: 1, api.FtBehind: 2} {
		h := made(t, api.Fault{At: 1, Kind: kind}, api.Fault{At: 3, Kind: api.FtStale, Back: 1})
		checkWrite(t, h, 0, []byte{1, 0, 0}, api.OK)
		checkWrite(t, h, 0, []byte{2, 0, 0}, api.ErrDown)
		checkWrite(t, h, 0, []byte{9, 0, 0}, api.ErrDown)
		h.Restart()
		checkWrite(t, h, 0, []byte{3, 0, 0}, api.OK)
		checkRead(t, h, 0, want, 0, 0)
	}
}

// P11.2: the page Page, if there is such a page.
func TestMove(t *testing.T) {
	for _, page := range []int{math.MinInt, -1, 0, 1, 2, 3, math.MaxInt} {
		h := hostOf(t, 3, 3, api.Fault{At: 3, Kind: api.FtMove, Page: page, Byte: 1, By: 1, Back: 1})
		for i := range 3 {
			checkWrite(t, h, i, []byte{byte(i + 1), 0, 0}, api.OK)
		}
		want := byte(2)
		if page >= 0 && page <= 2 {
			want = byte(page + 1)
		}
		checkRead(t, h, 1, want, 0, 0)
		checkRead(t, h, 1, 2, 0, 0)
		for i := range 3 {
			checkLies(t, h, i, byte(i+1), 0, 0)
		}
	}
}

// Words: one behind the other, in the order of the list, each of what the one ahead has made.
func TestSeveralFaultsOfOneRead(t *testing.T) {
	turn := func(at int, by uint8) api.Fault { return api.Fault{Kind: api.FtTurn, Byte: at, By: by} }
	stale := func(back int) api.Fault { return api.Fault{Kind: api.FtStale, Back: back} }
	move := func(page int) api.Fault { return api.Fault{Kind: api.FtMove, Page: page} }
	for i, c := range []struct {
		faults []api.Fault
		want   []byte
	}{
		{[]api.Fault{turn(0, 1), turn(1, 2)}, []byte{5, 7, 6}},
		{[]api.Fault{turn(0, 1), turn(0, 2)}, []byte{7, 5, 6}},
		{[]api.Fault{turn(0, 255), turn(0, 255)}, []byte{4, 5, 6}},
		{[]api.Fault{stale(1), turn(2, 1)}, []byte{1, 2, 2}},
		{[]api.Fault{turn(2, 1), stale(1)}, []byte{1, 2, 3}},
		{[]api.Fault{turn(2, 1), stale(0)}, []byte{4, 5, 6}},
		{[]api.Fault{turn(2, 1), stale(-5)}, []byte{4, 5, 6}},
		{[]api.Fault{move(1), turn(2, 1)}, []byte{7, 8, 8}},
		{[]api.Fault{turn(2, 1), move(1)}, []byte{7, 8, 9}},
		{[]api.Fault{turn(2, 1), move(0)}, []byte{4, 5, 6}},
		{[]api.Fault{turn(2, 1), move(2)}, []byte{4, 5, 7}}, // no such page: what stood there before stays
		{[]api.Fault{stale(1), move(-1)}, []byte{1, 2, 3}},
		{[]api.Fault{stale(1), move(1)}, []byte{7, 8, 9}},
		{[]api.Fault{stale(1), move(0)}, []byte{4, 5, 6}},
		{[]api.Fault{move(1), stale(1)}, []byte{1, 2, 3}}, // of the page that is read, not of the other
		{[]api.Fault{move(1), stale(2)}, []byte{0, 0, 0}},
		{[]api.Fault{move(1), stale(0)}, []byte{4, 5, 6}},
		{[]api.Fault{stale(2), stale(1)}, []byte{1, 2, 3}},
		{[]api.Fault{move(1), turn(0, 1), stale(1), turn(1, 1)}, []byte{1, 3, 3}},
		{[]api.Fault{stale(1), turn(0, 1), move(1), turn(1, 1)}, []byte{7, 9, 9}},
	} {
		for j := range c.faults {
			c.faults[j].At = 3
		}
		h := made(t, append([]api.Fault{{At: 4, Kind: api.FtTurn, By: 9}}, c.faults...)...)
		checkWrite(t, h, 0, []byte{1, 2, 3}, api.OK)
		checkWrite(t, h, 0, []byte{4, 5, 6}, api.OK)
		checkWrite(t, h, 1, []byte{7, 8, 9}, api.OK)
		t.Log("case", i)
		checkRead(t, h, 0, c.want...)
		checkRead(t, h, 0, 4^9, 5, 6)
		checkRead(t, h, 0, 4, 5, 6)
	}
}

// P11.6: the kinds 0 to 2 do nothing to other operations than reads, nor to the read that comes behind.
func TestSpoilingOfOthersThanReads(t *testing.T) {
	for _, kind := range []int{api.FtTurn, api.FtStale, api.FtMove} {
		for _, op := range []int{api.OpWrite, api.OpAsk, api.OpRaise} {
			h := made(t, api.Fault{At: 1, Kind: kind, Page: 1, By: 255, Back: 1})
			checkWrite(t, h, 0, []byte{1, 2, 3}, api.OK)
			if err := operation(h, op); err != api.OK {
				t.Fatalf("a fault of the kind %d at the operation %d: %d", kind, op, err)
			}
			checkLies(t, h, 0, 1, 2, 3)
			checkRead(t, h, 0, 1, 2, 3)
			checkRead(t, h, 1, 0, 0, 0)
			want := uint64(0)
			if op == api.OpRaise {
				want = 2
			}
			checkAsk(t, h, want, api.OK)
		}
	}
}

// P11.1: below 0, and at a number that no operation ever has, a fault befalls none.
func TestFaultsThatNeverBefall(t *testing.T) {
	for kind := api.FtTurn; kind <= api.FtBehind; kind++ {
		faults := []api.Fault{}
		for _, at := range []int{math.MinInt, -2, -1, 12, 13, math.MaxInt} {
			faults = append(faults, api.Fault{At: at, Kind: kind, Page: 1, By: 255, Back: 1})
		}
		h := made(t, faults...)
		for i := range 12 {
			if err := operation(h, i%4); err != api.OK {
				t.Fatalf("the operation %d: %d", i, err)
			}
		}
		checkLies(t, h, 0, 1, 2, 3)
		checkOps(t, h, 12, false)
	}
}

// Words: a call that is refused, or that finds no power, is no operation: the fault waits for the next one that is.
func TestFaultsWaitForAnOperation(t *testing.T) {
	h := made(t, api.Fault{At: 1, Kind: api.FtBefore}, api.Fault{At: 2, Kind: api.FtTurn, By: 8}, api.Fault{At: 3, Kind: api.FtBehind})
	refused := func() {
		t.Helper()
		checkReadRefused(t, h, 2, api.ErrArg)
		checkReadRefused(t, h, -1, api.ErrArg)
		checkWrite(t, h, 2, []byte{1, 2, 3}, api.ErrArg)
		checkWrite(t, h, 0, []byte{1, 2}, api.ErrLength)
		checkWrite(t, h, 0, []byte{1, 2, 3, 4}, api.ErrLength)
	}
	unpowered := func() {
		t.Helper()
		for op := range 4 {
			if err := operation(h, op); err != api.ErrDown {
				t.Fatalf("the operation %d: %d", op, err)
			}
		}
	}
	refused()
	checkWrite(t, h, 0, []byte{1, 2, 3}, api.OK)
	refused()
	checkOps(t, h, 1, false)
	checkWrite(t, h, 0, []byte{4, 5, 6}, api.ErrDown)
	refused()
	unpowered()
	checkOps(t, h, 2, true)
	h.Restart()
	refused()
	checkRead(t, h, 0, 9, 2, 3)
	refused()
	checkRaise(t, h, 7, api.ErrDown)
	refused()
	unpowered()
	checkOps(t, h, 4, true)
	h.Restart()
	checkAsk(t, h, 7, api.OK)
	checkLog(t, h, writeOf(0, 1, 2, 3), readOf(0), raiseOf(), askOf())
}

// Ways: a fault that has befallen is not kept; one that never can is not either.
func TestFaultsThatHaveBefallenAreGone(t *testing.T) {
	h := made(t, api.Fault{At: 0, Kind: api.FtTurn}, api.Fault{At: 0, Kind: api.FtMove}, api.Fault{At: 2, Kind: api.FtBefore}, api.Fault{At: -1})
	for i, want := range []int{1, 1, 0, 0} {
		h.Read(0)
		h.Restart()
		if len(h.coming) != want {
			t.Errorf("behind the operation %d faults of %d are to come, want %d", i, len(h.coming), want)
		}
	}
}

// What lies deeper than any fault looks is not kept.
func TestDepth(t *testing.T) {
	for _, c := range []struct {
		faults []api.Fault
		want   int
	}{
		{nil, 1}, {[]api.Fault{{At: 99, Kind: api.FtStale, Back: 4}, {At: 98, Kind: api.FtStale, Back: 2}}, 5},
		{[]api.Fault{{At: -1, Kind: api.FtStale, Back: 4}}, 1}, {[]api.Fault{{At: 99, Kind: api.FtMove, Back: 4}}, 1},
		{[]api.Fault{{At: 99, Kind: api.FtStale, Back: -4}}, 1}, {[]api.Fault{{At: 99, Kind: api.FtStale, Back: math.MaxInt}}, 20},
	} {
		h := made(t, c.faults...)
		for i := range 20 {
			checkWrite(t, h, 0, []byte{byte(i), 0, 0}, api.OK)
		}
		if len(h.laid[0]) != c.want {
			t.Errorf("of %v %d are kept, want %d", c.faults, len(h.laid[0]), c.want)
		}
	}
}
