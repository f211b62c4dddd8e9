package host

import (
	"testing"

	"tryst/api"
)

// done is what the touches of operations are that were done, of those of a host of 2 pages of 3 bytes.
func done(op int) api.Touch {
	switch op {
	case api.OpRead:
		return readOf(0)
	case api.OpWrite:
		return writeOf(0, 1, 2, 3)
	case api.OpAsk:
		return askOf()
	}
	return raiseOf()
}

// checkTraces tells what a write and a Raise leave behind, if they are done, and if they are not.
func checkTraces(t *testing.T, h *Host, op int, wasDone bool, register uint64) {
	t.Helper()
	if op == api.OpWrite && wasDone {
		checkLies(t, h, 0, 1, 2, 3)
	} else {
		checkLies(t, h, 0, 0, 0, 0)
	}
	if op != api.OpRaise || !wasDone {
		register = 0
	}
	checkAsk(t, h, register, api.OK)
}

// P11.2 to P11.5: the power goes ahead of an operation of each sort, the first one and a later one: not done, not logged, but counted.
func TestPowerGoesAhead(t *testing.T) {
	for op := api.OpRead; op <= api.OpRaise; op++ {
		for _, at := range []int{0, 1, 5} {
			h := made(t, api.Fault{At: at, Kind: api.FtBefore})
			log := []api.Touch{}
			for range at {
				checkRead(t, h, 1, 0, 0, 0)
				log = append(log, readOf(1))
			}
			if err := operation(h, op); err != api.ErrDown {
				t.Fatalf("%d: %d", op, err)
			}
			checkOps(t, h, at+1, true)
			checkLog(t, h, log...)
			h.Restart()
			checkOps(t, h, at+1, false)
			checkLog(t, h, log...)
			checkTraces(t, h, op, false, 0)
		}
	}
}

// P11.2 to P11.5: it goes behind one: done, logged and counted, but answered ErrDown.
func TestPowerGoesBehind(t *testing.T) {
	for op := api.OpRead; op <= api.OpRaise; op++ {
		for _, at := range []int{0, 1, 5} {
			h := made(t, api.Fault{At: at, Kind: api.FtBehind})
			log := []api.Touch{}
			for range at {
				checkRead(t, h, 1, 0, 0, 0)
				log = append(log, readOf(1))
			}
			if err := operation(h, op); err != api.ErrDown {
				t.Fatalf("%d: %d", op, err)
			}
			log = append(log, done(op))
			checkOps(t, h, at+1, true)
			checkLog(t, h, log...)
			h.Restart()
			checkLog(t, h, log...)
			checkTraces(t, h, op, true, uint64(at+1))
		}
	}
}

// R2: what a read and an Ask would have told is not told beside ErrDown.
func TestNothingIsToldWithoutPower(t *testing.T) {
	for _, kind := range []int{api.FtBefore, api.FtBehind} {
		h := made(t, api.Fault{At: 2, Kind: kind}, api.Fault{At: 3, Kind: kind})
		checkWrite(t, h, 0, []byte{1, 2, 3}, api.OK)
		checkRaise(t, h, 5, api.OK)
		checkReadRefused(t, h, 0, api.ErrDown)
		checkReadRefused(t, h, 0, api.ErrDown)
		checkAsk(t, h, 0, api.ErrDown)
		h.Restart()
		checkAsk(t, h, 0, api.ErrDown)
		checkReadRefused(t, h, 0, api.ErrDown)
		h.Restart()
		checkAsk(t, h, 5, api.OK)
		checkRead(t, h, 0, 1, 2, 3)
		checkOps(t, h, 6, false)
	}
}

// P11.4, R2: a Raise that is not above the register, when the power goes: ErrDown, and the register stays.
func TestPowerGoesAtARaiseToLess(t *testing.T) {
	for _, v := range []uint64{0, 4, 5} {
		h := made(t, api.Fault{At: 1, Kind: api.FtBehind}, api.Fault{At: 2, Kind: api.FtBefore})
		checkRaise(t, h, 5, api.OK)
		checkRaise(t, h, v, api.ErrDown)
		h.Restart()
		checkRaise(t, h, v, api.ErrDown)
		h.Restart()
		checkRaise(t, h, v, api.ErrRegister)
		checkAsk(t, h, 5, api.OK)
		checkLog(t, h, raiseOf(), raiseOf(), raiseOf(), askOf())
	}
}

// Words: FtBefore alone counts, if there is one, wherever in the list it stands; FtBehind comes last.
func TestPowerAmongSeveralFaults(t *testing.T) {
	before, behind := api.Fault{At: 1, Kind: api.FtBefore}, api.Fault{At: 1, Kind: api.FtBehind}
	turn := api.Fault{At: 1, Kind: api.FtTurn, By: 1}
	for _, faults := range [][]api.Fault{
		{before, behind}, {behind, before}, {before, before}, {before, turn}, {turn, before}, {behind, turn, before}, {before, turn, behind}, {turn, before, behind},
	} {
		h := made(t, faults...)
		checkWrite(t, h, 0, []byte{1, 2, 3}, api.OK)
		checkWrite(t, h, 0, []byte{4, 5, 6}, api.ErrDown)
		checkLies(t, h, 0, 1, 2, 3)
		checkLog(t, h, writeOf(0, 1, 2, 3))
		checkOps(t, h, 2, true)
		h.Restart()
		checkRead(t, h, 0, 1, 2, 3)
	}
	for _, faults := range [][]api.Fault{{behind}, {behind, behind}, {behind, turn}, {turn, behind}, {turn, behind, turn}} {
		h := made(t, faults...)
		checkWrite(t, h, 0, []byte{1, 2, 3}, api.OK)
		checkReadRefused(t, h, 0, api.ErrDown)
		checkLog(t, h, writeOf(0, 1, 2, 3), readOf(0))
		h.Restart()
		checkRead(t, h, 0, 1, 2, 3)
		checkOps(t, h, 3, false)
	}
}

// P11.5: Restart of a host that is down, that was just restarted, and that was never down.
func TestRestart(t *testing.T) {
	h := made(t, api.Fault{At: 3, Kind: api.FtBehind}, api.Fault{At: 4, Kind: api.FtBefore})
	checkWrite(t, h, 1, []byte{1, 2, 3}, api.OK)
	checkRaise(t, h, 6, api.OK)
	h.Restart()
	checkOps(t, h, 2, false)
	checkAsk(t, h, 6, api.OK)
	checkRaise(t, h, 8, api.ErrDown)
	log := h.Log()
	for range 3 {
		h.Restart()
		checkOps(t, h, 4, false)
		checkLies(t, h, 1, 1, 2, 3)
		checkLog(t, h, log...)
	}
	checkAsk(t, h, 0, api.ErrDown)
	h.Restart()
	checkAsk(t, h, 8, api.OK)
	checkRead(t, h, 1, 1, 2, 3)
	checkOps(t, h, 7, false)
}

// Words: while the host is down nothing is counted, logged or done, however often it is tried.
func TestNothingIsDoneWithoutPower(t *testing.T) {
	h := made(t, api.Fault{At: 0, Kind: api.FtBehind})
	checkRaise(t, h, 3, api.ErrDown)
	for range 3 {
		checkWrite(t, h, 0, []byte{1, 2, 3}, api.ErrDown)
		checkReadRefused(t, h, 0, api.ErrDown)
		checkRaise(t, h, 9, api.ErrDown)
		checkAsk(t, h, 0, api.ErrDown)
		checkOps(t, h, 1, true)
		checkLog(t, h, raiseOf())
		checkLies(t, h, 0, 0, 0, 0)
	}
	h.Restart()
	checkAsk(t, h, 3, api.OK)
	checkRead(t, h, 0, 0, 0, 0)
}
