package record

import (
	"bytes"
	"slices"
	"testing"

	"tryst/api"
)

// edgeNumbers are those at their ends, and those whose bytes are unlike.
func edgeNumbers() []uint32 {
	return []uint32{0, 1, 255, 256, 1 << 24, 0x01020304, 0x04030201, 1 << 31, 1<<32 - 1}
}

// edgeGroups differ in the first byte alone, in the last one alone, in two that speak against each other, in the sign of a byte.
func edgeGroups() []api.Drop {
	rising := api.Drop{}
	for i := range rising {
		rising[i] = byte(200 + i)
	}
	return []api.Drop{
		{}, {1}, {2}, {15: 1}, {15: 2}, {0: 1, 15: 2}, {0: 2, 15: 1}, {7: 1}, {8: 1}, {7: 2, 8: 1}, {7: 1, 8: 2},
		{128}, {127, 255}, {15: 255}, rising,
	}
}

// edgeHeads have every Live and Flag of a record with every edge of the other parts, one at a time.
func edgeHeads() []api.Head {
	var heads []api.Head
	for bits := range 4 {
		base := api.Head{Live: uint8(bits & 1), Flag: uint8(bits >> 1), Index: 77, Rank: 0x0a0b0c0d, Group: api.Drop{3, 9}}
		for _, number := range edgeNumbers() {
			index, rank := base, base
			index.Index, rank.Rank = number, number
			heads = append(heads, index, rank)
		}
		for _, group := range edgeGroups() {
			other := base
			other.Group = group
			heads = append(heads, other)
		}
	}
	return heads
}

func edgeBodies() [][]byte {
	return [][]byte{nil, {}, {0}, {1}, {2, 2}, bytes.Repeat([]byte{255}, api.MaxMessage), bytes.Repeat([]byte{1, 0}, 3000)}
}

// P14.1, P14.2, P14.6, R4: there and back.
func TestMakeAndParse(t *testing.T) {
	for _, h := range edgeHeads() {
		for _, body := range edgeBodies() {
			b := Make(h, body)
			checkBytes(t, "Make", b, laid(h, body...))
			checkParse(t, b, h, body...)
		}
	}
}

// P14.6: the other way round, of bytes that nothing has made.
func TestMakeOfWhatParseAnswers(t *testing.T) {
	for length := api.HeadSize; length < api.HeadSize+40; length++ {
		for bits := range byte(4) {
			b := make([]byte, length)
			for i := range b {
				b[i] = byte(i*i*7+length*13) ^ bits
			}
			b[0], b[1] = bits&1, bits>>1
			h, body, err := Parse(b)
			if err != api.OK {
				t.Fatalf("Parse of %d bytes: %d", length, err)
			}
			checkBytes(t, "Make of what was parsed", Make(h, body), b)
		}
	}
}

// P14.1, P14.2, P14.4, R2: Live and Flag are laid as they are, and just 0 and 1 make a record.
func TestEveryLiveAndFlag(t *testing.T) {
	for bits := range 1 << 16 {
		h := exampleHead()
		h.Live, h.Flag = uint8(bits), uint8(bits>>8)
		b := Make(h, []byte{9})
		if !bytes.Equal(b, append([]byte{uint8(bits), uint8(bits >> 8)}, exampleBytes()[2:]...)) {
			t.Fatalf("Make of Live %d, Flag %d = % x", h.Live, h.Flag, b)
		}
		if h.Live <= 1 && h.Flag <= 1 {
			checkParse(t, b, h, 9)
		} else {
			checkNoRecord(t, b)
		}
		if got, want := Live(b), maskOf(h.Live == 1 && h.Flag <= 1); got != want {
			t.Fatalf("Live of Live %d, Flag %d = %#x, want %#x", h.Live, h.Flag, got, want)
		}
	}
}

// P14.2, P14.4, R2, R4: what is too short is none, whatever stands behind its end.
func TestTooShort(t *testing.T) {
	whole := exampleBytes()
	checkNoRecord(t, nil)
	for length := range api.HeadSize {
		checkNoRecord(t, whole[:length])
		checkNoRecord(t, slices.Clone(whole[:length]))
		if got := Live(whole[:length]); got != 0 {
			t.Fatalf("Live of %d bytes: %#x", length, got)
		}
	}
	if got := Live(whole[:26]); got != 1<<64-1 {
		t.Fatalf("Live of 26 bytes: %#x", got)
	}
}

// P14.3, R5: over records and over what is none; what stands behind the head stays, and so does the room behind the end.
func TestPut(t *testing.T) {
	heads := append(edgeHeads(), api.Head{Live: 2}, api.Head{Flag: 255, Index: 5}, api.Head{Live: 255, Flag: 2, Rank: 7, Group: api.Drop{15: 4}})
	for _, body := range [][]byte{nil, {9}, {1, 2, 3, 4, 5, 6, 7, 8, 9}} {
		for _, first := range []byte{0, 1, 2, 255} {
			for _, h := range heads {
				whole := append(bytes.Repeat([]byte{first}, api.HeadSize), body...)
				whole = append(whole, 90, 91, 92)
				length := api.HeadSize + len(body)
				if err := Put(whole[:length], h); err != api.OK {
					t.Fatalf("Put over %d bytes %d of %v: %d", length, first, h, err)
				}
				checkBytes(t, "what Put leaves", whole, append(laid(h, body...), 90, 91, 92))
			}
		}
	}
}

// P14.3, R2, R4: fewer than 26 bytes stay as they are, and so does the room behind them.
func TestPutRefused(t *testing.T) {
	h := api.Head{Live: 1, Flag: 1, Index: 1<<32 - 1, Rank: 1<<32 - 1, Group: api.Drop{1, 1}}
	if err := Put(nil, h); err != api.ErrRecord {
		t.Fatalf("Put over none: %d", err)
	}
	for length := range api.HeadSize {
		whole := bytes.Repeat([]byte{77}, 40)
		if err := Put(whole[:length], h); err != api.ErrRecord {
			t.Fatalf("Put over %d bytes: %d", length, err)
		}
		checkBytes(t, "what was refused", whole, bytes.Repeat([]byte{77}, 40))
	}
}

// P14.3: what comes of it is a record just if the head makes one.
func TestParseBehindPut(t *testing.T) {
	b := bytes.Repeat([]byte{8}, 28)
	checkNoRecord(t, b)
	Put(b, exampleHead())
	checkParse(t, b, exampleHead(), 8, 8)
	Put(b, api.Head{Live: 1, Flag: 2})
	checkNoRecord(t, b)
	Put(b, api.Head{Live: 0, Flag: 1})
	checkParse(t, b, api.Head{Flag: 1}, 8, 8)
}
