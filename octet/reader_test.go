package octet

import (
	"bytes"
	"encoding/binary"
	"math"
	"math/rand"
	"slices"
	"testing"

	"tryst/api"
)

// numberBy takes a number of so many bytes.
func numberBy(r *Reader, width int) uint64 {
	switch width {
	case 1:
		return uint64(r.U8())
	case 2:
		return uint64(r.U16())
	case 4:
		return uint64(r.U32())
	}
	return r.U64()
}

func counting(n int) []byte {
	b := make([]byte, n)
	for i := range b {
		b[i] = byte(i + 1)
	}
	return b
}

func checkReader(t *testing.T, r *Reader, left int, err, end api.Errno) {
	t.Helper()
	for range 2 { // asking changes nothing
		if r.Left() != left || r.Err() != err || r.End() != end {
			t.Fatalf("left %d, error %d, end %d; want %d, %d, %d", r.Left(), r.Err(), r.End(), left, err, end)
		}
	}
}

// P2.3, P2.4: each width, with each number of bytes left.
func TestReaderOfNumbers(t *testing.T) {
	for _, width := range []int{1, 2, 4, 8} {
		for ahead := range 3 {
			for left := range 2*width + 2 {
				b := counting(ahead + left)
				r := NewReader(b)
				r.Bytes(ahead)
				got := numberBy(r, width)
				if left < width {
					if got != 0 {
						t.Errorf("%d of %d bytes: %d", width, left, got)
					}
					checkReader(t, r, left, api.ErrShort, api.ErrShort)
					continue
				}
				want := binary.LittleEndian.Uint64(append(slices.Clone(b[ahead:ahead+width]), make([]byte, 8)...))
				if got != want {
					t.Errorf("%d of %d bytes behind %d: %#x, want %#x", width, left, ahead, got, want)
				}
				end := api.ErrRest
				if left == width {
					end = api.OK
				}
				checkReader(t, r, left-width, api.OK, end)
			}
		}
	}
}

// P2.3, P2.4: pieces of all sizes, those below 0 and far beyond the end among them.
func TestReaderOfPieces(t *testing.T) {
	for total := range 8 {
		for n := range total + 1 {
			r := NewReader(counting(total))
			if got := r.Bytes(n); !bytes.Equal(got, counting(total)[:n]) {
				t.Errorf("Bytes(%d) of %d = %v", n, total, got)
			}
			end := api.ErrRest
			if n == total {
				end = api.OK
			}
			checkReader(t, r, total-n, api.OK, end)
		}
		for n, want := range map[int]api.Errno{
			-1: api.ErrArg, math.MinInt: api.ErrArg, total + 1: api.ErrShort, math.MaxInt: api.ErrShort,
		} {
			r := NewReader(counting(total))
			if got := r.Bytes(n); len(got) != 0 {
				t.Errorf("Bytes(%d) = %v", n, got)
			}
			checkReader(t, r, total, want, want)
		}
	}
}

// P2.3: a size beyond the end is short from a place in the middle, too, and does not wrap round.
func TestReaderFarBeyond(t *testing.T) {
	r := NewReader(counting(5))
	r.U16()
	if got := r.Bytes(math.MaxInt); len(got) != 0 {
		t.Errorf("Bytes = %v", got)
	}
	checkReader(t, r, 3, api.ErrShort, api.ErrShort)
}

// P2.3, P2.4: the first error sticks, and with it nothing moves, whatever is asked.
func TestReaderErrorSticks(t *testing.T) {
	for _, c := range []struct {
		spoil func(r *Reader)
		err   api.Errno
	}{
		{func(r *Reader) { r.Bytes(-1) }, api.ErrArg},
		{func(r *Reader) { r.Bytes(21) }, api.ErrShort},
		{func(r *Reader) { r.Bytes(15); r.U64() }, api.ErrShort},
	} {
		r := NewReader(counting(20))
		c.spoil(r)
		left := r.Left()
		for _, width := range []int{1, 2, 4, 8} {
			if got := numberBy(r, width); got != 0 {
				t.Errorf("a number of %d bytes behind an error: %d", width, got)
			}
			checkReader(t, r, left, c.err, c.err)
		}
		for _, n := range []int{-1, 0, 1, 5, 21, math.MaxInt} {
			if got := r.Bytes(n); len(got) != 0 {
				t.Errorf("Bytes(%d) behind an error: %v", n, got)
			}
			checkReader(t, r, left, c.err, c.err)
		}
	}
}

// P2.3: too few for a wide number does not take from the narrow ones; but the error is there.
func TestReaderPlaceStays(t *testing.T) {
	r := NewReader(counting(7))
	r.U32()
	r.U32()
	checkReader(t, r, 3, api.ErrShort, api.ErrShort)
}

// P2.3, R4: nothing to read.
func TestReaderOfNothing(t *testing.T) {
	for _, b := range [][]byte{nil, {}} {
		r := NewReader(b)
		checkReader(t, r, 0, api.OK, api.OK)
		if got := r.Bytes(0); len(got) != 0 {
			t.Errorf("Bytes(0) = %v", got)
		}
		checkReader(t, r, 0, api.OK, api.OK)
		if got := r.U8(); got != 0 {
			t.Errorf("U8 = %d", got)
		}
		checkReader(t, r, 0, api.ErrShort, api.ErrShort)
	}
}

// P2.3, R5: what was handed in is not kept, and not changed.
func TestReaderKeepsNoArgument(t *testing.T) {
	b := counting(12)
	r := NewReader(b[:10])
	for i := range b {
		b[i] = 200
	}
	if got := r.Bytes(3); !bytes.Equal(got, []byte{1, 2, 3}) {
		t.Errorf("Bytes = %v", got)
	}
	if got := r.U16(); got != 0x0504 {
		t.Errorf("U16 = %#x", got)
	}
	_ = append(r.Bytes(5), 1, 2, 3)
	if !bytes.Equal(b, bytes.Repeat([]byte{200}, 12)) {
		t.Errorf("the argument has changed: %v", b)
	}
}

// P2.3, R5: pieces are new memory, cut off at their ends.
func TestReaderPiecesShareNothing(t *testing.T) {
	r := NewReader(counting(9))
	first, second := r.Bytes(3), r.Bytes(3)
	if cap(first) != 3 || cap(second) != 3 {
		t.Errorf("room behind a piece: %d, %d", cap(first), cap(second))
	}
	_ = append(first[:1], 99, 99)
	_ = append(first, 99)
	_ = append(second, 99)
	if !bytes.Equal(second, []byte{4, 5, 6}) {
		t.Errorf("the second piece has changed: %v", second)
	}
	if got := r.Bytes(3); !bytes.Equal(got, []byte{7, 8, 9}) {
		t.Errorf("the rest has changed: %v", got)
	}
	first[0] = 99
	if !bytes.Equal(r.row, counting(9)) {
		t.Errorf("a piece shares with what the reader keeps: %v", r.row)
	}
}

// P2.3, P2.4, R3
func TestNilReader(t *testing.T) {
	var r *Reader
	for _, width := range []int{1, 2, 4, 8} {
		if got := numberBy(r, width); got != 0 {
			t.Errorf("a number of a nil reader: %d", got)
		}
	}
	for _, n := range []int{-1, 0, 1} {
		if got := r.Bytes(n); len(got) != 0 {
			t.Errorf("Bytes(%d) of a nil reader: %v", n, got)
		}
	}
	checkReader(t, r, 0, api.ErrNil, api.ErrNil)
}

// modelReader is the chapter's reader, told as plainly as can be.
type modelReader struct {
	left []byte
	err  api.Errno
}

func (m *modelReader) take(n int) []byte {
	switch {
	case m.err != api.OK:
	case n < 0:
		m.err = api.ErrArg
	case n > len(m.left):
		m.err = api.ErrShort
	default:
		piece := m.left[:n]
		m.left = m.left[n:]
		return piece
	}
	return nil
}

// P2.3, P2.4: drawn lives of a reader, held against the model.
func TestReaderLives(t *testing.T) {
	source := rand.New(rand.NewSource(3))
	for range 2000 {
		b := make([]byte, source.Intn(40))
		source.Read(b)
		r, m := NewReader(b), &modelReader{left: b}
		for range 12 {
			if n := source.Intn(12) - 1; n < 8 {
				if got, want := r.Bytes(n), m.take(n); !bytes.Equal(got, want) {
					t.Fatalf("Bytes(%d) = %v, want %v", n, got, want)
				}
			} else {
				width := 1 << (n - 8)
				want := binary.LittleEndian.Uint64(append(slices.Clone(m.take(width)), make([]byte, 8)...))
				if got := numberBy(r, width); got != want {
					t.Fatalf("a number of %d bytes = %#x, want %#x", width, got, want)
				}
			}
			end := m.err
			if end == api.OK && len(m.left) > 0 {
				end = api.ErrRest
			}
			checkReader(t, r, len(m.left), m.err, end)
		}
	}
}
