package host

import (
	"math"
	"runtime"
	"slices"
	"testing"

	"tryst/api"
)

var _ api.Vault = (*Host)(nil)

const maxSize = api.MaxText + api.PageSize

// counted are n bytes, each one above the one ahead of it.
func counted(from byte, n int) []byte {
	b := make([]byte, n)
	for i := range b {
		b[i] = from + byte(i)
	}
	return b
}

// overwrite goes up to the end of the room that a list has.
func overwrite(b []byte) {
	b = b[:cap(b)]
	for i := range b {
		b[i] ^= 0x5a
	}
}

func checkNewRefused(t *testing.T, pages, size int, faults []api.Fault) {
	t.Helper()
	if h, err := New(pages, size, faults); h != nil || err != api.ErrArg {
		t.Errorf("New(%d, %d, %v) = %d", pages, size, faults, err)
	}
}

// P11.1, P11.5: as many pages as may be, of sizes that may be, and one beyond.
func TestNewOfPagesAndSizes(t *testing.T) {
	for _, pages := range []int{0, 1, 2, 1000, api.MaxPages} {
		for _, size := range []int{1, 2, 12, maxSize - 1, maxSize} {
			h := hostOf(t, pages, size)
			if h.Pages() != pages || h.Size() != size {
				t.Errorf("New(%d, %d): Pages = %d, Size = %d", pages, size, h.Pages(), h.Size())
			}
			checkOps(t, h, 0, false)
			checkLog(t, h)
			checkAsk(t, h, 0, api.OK)
		}
	}
	for _, wrong := range []int{-1, -2, math.MinInt, api.MaxPages + 1, math.MaxInt} {
		checkNewRefused(t, wrong, 3, nil)
	}
	for _, wrong := range []int{0, -1, math.MinInt, maxSize + 1, math.MaxInt} {
		checkNewRefused(t, 2, wrong, nil)
		checkNewRefused(t, 0, wrong, nil)
		checkNewRefused(t, -1, wrong, []api.Fault{{Kind: 5}})
	}
}

// P11.1: faults of all kinds, and a wrong one at each place; all other fields may be any numbers.
func TestNewOfFaults(t *testing.T) {
	numbers := []int{math.MinInt, -1, 0, 1, 5, math.MaxInt}
	good := []api.Fault{}
	for kind := 0; kind <= 4; kind++ {
		for i, n := range numbers {
			good = append(good, api.Fault{At: n, Kind: kind, Page: numbers[(i+1)%6], Byte: numbers[(i+2)%6], By: uint8(n), Back: numbers[(i+3)%6]})
		}
	}
	hostOf(t, 2, 3, good...)
	for _, kind := range []int{-1, 5, 6, math.MinInt, math.MaxInt} {
		checkNewRefused(t, 2, 3, []api.Fault{{Kind: kind}})
		checkNewRefused(t, 2, 3, []api.Fault{{Kind: kind, At: -1}})
		for i := range good {
			faults := slices.Clone(good)
			faults[i].Kind = kind
			checkNewRefused(t, 2, 3, faults)
		}
	}
	// The chapter names no number of faults that is too great.
	hostOf(t, 2, 3, make([]api.Fault, api.MaxFaults+1)...)
}

// P11.1, R4: nil and empty are the same.
func TestNewOfNoFaults(t *testing.T) {
	for _, faults := range [][]api.Fault{nil, {}, make([]api.Fault, 3)[:0]} {
		h, err := New(2, 3, faults)
		if err != api.OK {
			t.Fatalf("New: %d", err)
		}
		for range 5 {
			checkRead(t, h, 0, 0, 0, 0)
		}
		checkOps(t, h, 5, false)
	}
}

// P11.2, P11.3: the first page, the last one, and none of those beside them; of a host with no pages none at all.
func TestPageNumbers(t *testing.T) {
	for _, pages := range []int{0, 1, 2, 7, api.MaxPages} {
		h := hostOf(t, pages, 3)
		for _, page := range []int{-1, math.MinInt, pages, pages + 1, math.MaxInt} {
			checkReadRefused(t, h, page, api.ErrArg)
			checkWrite(t, h, page, []byte{1, 2, 3}, api.ErrArg)
			checkLies(t, h, page)
		}
		checkOps(t, h, 0, false)
		checkLog(t, h)
		if pages == 0 {
			continue
		}
		last := pages - 1
		checkWrite(t, h, last, []byte{1, 2, 3}, api.OK)
		checkRead(t, h, last, 1, 2, 3)
		checkLog(t, h, writeOf(last, 1, 2, 3), readOf(last))
		if last > 0 {
			checkRead(t, h, 0, 0, 0, 0)
		}
	}
}

// P11.3: bytes that are none, one too few, one too many.
func TestWriteOfAnotherLength(t *testing.T) {
	for _, size := range []int{1, 3, 12, maxSize} {
		h := hostOf(t, 2, size)
		for _, n := range []int{0, size - 1, size + 1, 2 * size} {
			checkWrite(t, h, 1, counted(1, n), api.ErrLength)
		}
		checkWrite(t, h, 1, nil, api.ErrLength)
		checkOps(t, h, 0, false)
		checkLies(t, h, 1, make([]byte, size)...)
		checkWrite(t, h, 1, counted(1, size), api.OK)
		checkRead(t, h, 1, counted(1, size)...)
		checkOps(t, h, 2, false)
	}
}

// P11.2, P11.3, P11.6: each page for itself, written often; a read changes nothing.
func TestPagesAreApart(t *testing.T) {
	const pages, size = 5, 20
	h, want := hostOf(t, pages, size), make([][]byte, pages)
	for i := range want {
		want[i] = make([]byte, size)
	}
	for step := range 50 {
		page := step * step % pages
		want[page] = counted(byte(step), size)
		checkWrite(t, h, page, want[page], api.OK)
		for range 2 {
			for i, b := range want {
				checkRead(t, h, i, b...)
				checkLies(t, h, i, b...)
			}
		}
	}
	checkOps(t, h, 50*(1+2*pages), false)
}

// P11.4, P11.6: to more, to the same, to less, and to the greatest number.
func TestRegister(t *testing.T) {
	h := made(t)
	held, ops := uint64(0), 0
	for _, v := range []uint64{0, 1, 1, 0, 3, 2, 4, 1 << 32, 5, 1 << 63, 1<<63 - 1, math.MaxUint64 - 1, math.MaxUint64, math.MaxUint64, 0, 1} {
		want := api.ErrRegister
		if v > held {
			held, want = v, api.OK
		}
		checkRaise(t, h, v, want)
		checkAsk(t, h, held, api.OK)
		checkAsk(t, h, held, api.OK)
		ops += 3
		checkOps(t, h, ops, false)
	}
	if log := h.Log(); len(log) != ops || log[0] != raiseOf() || log[1] != askOf() {
		t.Errorf("the log has %d touches, of %d: %v", len(log), ops, log[:2])
	}
}

// P11.5: a touch of each operation, in order, with what each tells; a Raise that is refused for its number is one, too.
func TestLog(t *testing.T) {
	h := made(t)
	checkRead(t, h, 1, 0, 0, 0)
	checkWrite(t, h, 1, []byte{1, 2, 3}, api.OK)
	checkAsk(t, h, 0, api.OK)
	checkRaise(t, h, 9, api.OK)
	checkRaise(t, h, 9, api.ErrRegister)
	checkRead(t, h, 1, 1, 2, 3)
	checkWrite(t, h, 0, []byte{0, 0, 4}, api.OK)
	checkLog(t, h, readOf(1), writeOf(1, 1, 2, 3), askOf(), raiseOf(), raiseOf(), readOf(1), writeOf(0, 0, 0, 4))
}

// P11.5: the head of a write is its first 12 bytes, and bytes 0 where there are no more.
func TestHeads(t *testing.T) {
	for _, size := range []int{1, 2, 11, 12, 13, 28, maxSize} {
		h, b := hostOf(t, 3, size), counted(7, size)
		checkWrite(t, h, 2, b, api.OK)
		checkRead(t, h, 2, b...)
		want := api.Touch{Op: api.OpWrite, Page: 2, Length: size}
		for i := range min(size, 12) {
			want.Head[i] = byte(7 + i)
		}
		checkLog(t, h, want, api.Touch{Op: api.OpRead, Page: 2, Length: size})
	}
}

// P11.5: what is asked is told of a host that is down, too, and asking is no operation.
func TestAskingChangesNothing(t *testing.T) {
	h := made(t, api.Fault{At: 1, Kind: api.FtBehind})
	checkWrite(t, h, 1, []byte{1, 2, 3}, api.OK)
	for _, down := range []bool{false, true, false} {
		if down {
			checkRaise(t, h, 4, api.ErrDown)
		} else {
			h.Restart()
		}
		before := h.Log()
		for range 3 {
			checkLies(t, h, 1, 1, 2, 3)
			checkLies(t, h, 0, 0, 0, 0)
			checkLies(t, h, 2)
			checkLies(t, h, -1)
			checkLog(t, h, before...)
			checkOps(t, h, len(before), down)
			if h.Pages() != 2 || h.Size() != 3 {
				t.Fatalf("Pages = %d, Size = %d", h.Pages(), h.Size())
			}
		}
	}
	checkAsk(t, h, 4, api.OK)
}

// R3: a nil host at every call, ahead of all other errors.
func TestNilHost(t *testing.T) {
	var h *Host
	for _, page := range []int{-1, 0, 1, math.MaxInt, math.MinInt} {
		checkReadRefused(t, h, page, api.ErrNil)
		for _, b := range [][]byte{nil, {}, {1}, {1, 2, 3}} {
			checkWrite(t, h, page, b, api.ErrNil)
		}
		checkLies(t, h, page)
	}
	for _, v := range []uint64{0, 1, math.MaxUint64} {
		checkRaise(t, h, v, api.ErrNil)
		checkAsk(t, h, 0, api.ErrNil)
	}
	h.Restart()
	checkOps(t, h, 0, false)
	checkLog(t, h)
	if h.Pages() != 0 || h.Size() != 0 {
		t.Errorf("Pages = %d, Size = %d", h.Pages(), h.Size())
	}
}

// R2: of several errors the first one: no such page, not the length, the power; and the power ahead of the register.
func TestOrderOfErrors(t *testing.T) {
	h := made(t, api.Fault{At: 0, Kind: api.FtBefore})
	for _, down := range []bool{false, true} {
		checkReadRefused(t, h, 2, api.ErrArg)
		checkReadRefused(t, h, -1, api.ErrArg)
		checkWrite(t, h, 2, []byte{1, 2}, api.ErrArg)
		checkWrite(t, h, -1, nil, api.ErrArg)
		checkWrite(t, h, 2, []byte{1, 2, 3}, api.ErrArg)
		checkWrite(t, h, 1, []byte{1, 2}, api.ErrLength)
		if !down {
			checkOps(t, h, 0, false)
			checkAsk(t, h, 0, api.ErrDown)
		}
	}
	checkReadRefused(t, h, 1, api.ErrDown)
	checkWrite(t, h, 1, []byte{1, 2, 3}, api.ErrDown)
	checkRaise(t, h, 0, api.ErrDown)
	checkAsk(t, h, 0, api.ErrDown)
	checkOps(t, h, 1, true)
}

// R5: what is handed in stays as it was, with the room behind its end, and is not kept.
func TestNothingHandedInIsKept(t *testing.T) {
	room := []api.Fault{{At: 2, Kind: api.FtTurn, By: 1}, {At: 3, Kind: api.FtMove, Page: 1}, {At: 4, Kind: api.FtStale, Back: 1}, {At: 9, Kind: 77}}
	before := slices.Clone(room)
	h := hostOf(t, 2, 3, room[:3]...)
	if !slices.Equal(room, before) {
		t.Fatal("the faults have changed")
	}
	for i := range room {
		room[i] = api.Fault{Kind: api.FtBefore, At: i}
	}
	bytes := []byte{1, 2, 3, 4, 5}
	checkWrite(t, h, 0, bytes[:3], api.OK)
	if !slices.Equal(bytes, []byte{1, 2, 3, 4, 5}) {
		t.Fatal("the bytes have changed")
	}
	overwrite(bytes)
	checkLies(t, h, 0, 1, 2, 3)
	checkWrite(t, h, 0, []byte{4, 5, 6}, api.OK)
	checkRead(t, h, 0, 5, 5, 6)
	checkRead(t, h, 0, 0, 0, 0)
	checkRead(t, h, 0, 1, 2, 3)
	checkRead(t, h, 0, 4, 5, 6)
	checkLog(t, h, writeOf(0, 1, 2, 3), writeOf(0, 4, 5, 6), readOf(0), readOf(0), readOf(0), readOf(0))
}

// R5: what is answered is new memory: whatever is done to it shows nowhere.
func TestAnswersAreNew(t *testing.T) {
	h := made(t, api.Fault{At: 3, Kind: api.FtMove, Page: 1}, api.Fault{At: 4, Kind: api.FtStale, Back: 1}, api.Fault{At: 5, Kind: api.FtStale, Back: 1})
	checkWrite(t, h, 0, []byte{1, 2, 3}, api.OK)
	checkWrite(t, h, 0, []byte{4, 5, 6}, api.OK)
	checkWrite(t, h, 1, []byte{7, 8, 9}, api.OK)
	moved, _ := h.Read(0)
	stale, _ := h.Read(0)
	again, _ := h.Read(0)
	plain, _ := h.Read(0)
	empty := hostOf(t, 1, 3)
	zeros, _ := empty.Read(0)
	for _, b := range [][]byte{moved, stale, plain, zeros, h.Lies(0), h.Lies(1), empty.Lies(0)} {
		overwrite(b)
	}
	if !slices.Equal(again, []byte{1, 2, 3}) {
		t.Errorf("the other answer = %v", again)
	}
	checkLies(t, h, 0, 4, 5, 6)
	checkLies(t, h, 1, 7, 8, 9)
	checkRead(t, h, 0, 4, 5, 6)
	checkRead(t, empty, 0, 0, 0, 0)

	log := h.Log()
	clear(log[:cap(log)])
	checkLog(t, h, writeOf(0, 1, 2, 3), writeOf(0, 4, 5, 6), writeOf(1, 7, 8, 9), readOf(0), readOf(0), readOf(0), readOf(0), readOf(0))
	log = h.Log()
	checkRead(t, h, 0, 4, 5, 6)
	if len(log) != 8 {
		t.Errorf("a log that was told has grown to %d", len(log))
	}
	_ = append(log, api.Touch{Op: 99})
	if last := h.Log()[8]; last != readOf(0) {
		t.Errorf("the last touch = %v", last)
	}
}

// Two hosts have nothing in common, though they were made of one list.
func TestHostsAreApart(t *testing.T) {
	faults := []api.Fault{{At: 1, Kind: api.FtBehind}}
	one, other := hostOf(t, 2, 3, faults...), hostOf(t, 2, 3, faults...)
	checkWrite(t, one, 0, []byte{1, 2, 3}, api.OK)
	checkRaise(t, one, 3, api.ErrDown)
	checkOps(t, other, 0, false)
	checkAsk(t, other, 0, api.OK)
	checkReadRefused(t, other, 0, api.ErrDown)
	other.Restart()
	checkOps(t, one, 2, true)
	checkRead(t, other, 0, 0, 0, 0)
}

// The most pages of the greatest size fill no memory until they are written, nor does a page that is written over and over.
func TestMemory(t *testing.T) {
	var before, behind runtime.MemStats
	runtime.GC()
	runtime.ReadMemStats(&before)
	h := hostOf(t, api.MaxPages, maxSize, api.Fault{At: math.MaxInt, Kind: api.FtStale, Back: 2})
	for i := range 20000 {
		checkWrite(t, h, i%3, counted(byte(i), maxSize), api.OK)
	}
	runtime.GC()
	runtime.ReadMemStats(&behind)
	if grown := int64(behind.HeapAlloc) - int64(before.HeapAlloc); grown > 1<<24 {
		t.Errorf("%d bytes are kept", grown)
	}
	checkLies(t, h, 0, counted(byte(19998%256), maxSize)...)
}
