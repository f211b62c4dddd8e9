package octet

import (
	"bytes"
	"math"
	"math/rand"
	"slices"
	"testing"

	"tryst/api"
)

func newWriter(t *testing.T, size int) *Writer {
	t.Helper()
	w, e := NewWriter(size)
	if w == nil || e != api.OK {
		t.Fatalf("NewWriter(%d): %v, %d", size, w, e)
	}
	return w
}

// layBy lays a number of so many bytes.
func layBy(w *Writer, width int, v uint64) {
	switch width {
	case 1:
		w.U8(uint8(v))
	case 2:
		w.U16(uint16(v))
	case 4:
		w.U32(uint32(v))
	default:
		w.U64(v)
	}
}

func checkWriter(t *testing.T, w *Writer, left int, laid []byte, err api.Errno) {
	t.Helper()
	for range 2 { // asking changes nothing
		got, e := w.Done()
		if w.Left() != left || e != err || !bytes.Equal(got, laid) {
			t.Fatalf("left %d, done %v, %d; want %d, %v, %d", w.Left(), got, e, left, laid, err)
		}
		if e != api.OK && got != nil {
			t.Fatalf("bytes beside the error %d", e)
		}
	}
}

// P2.5: sizes below 0, at MaxBytes, and above it.
func TestNewWriter(t *testing.T) {
	for _, c := range []struct {
		size int
		err  api.Errno
	}{
		{math.MinInt, api.ErrArg}, {-1, api.ErrArg},
		{0, api.OK}, {1, api.OK}, {api.MaxBytes - 1, api.OK}, {api.MaxBytes, api.OK},
		{api.MaxBytes + 1, api.ErrLong}, {math.MaxInt, api.ErrLong},
	} {
		w, e := NewWriter(c.size)
		if e != c.err || (w == nil) != (c.err != api.OK) {
			t.Errorf("NewWriter(%d) = %v, %d, want %d", c.size, w, e, c.err)
		}
		if w != nil && w.Left() != c.size {
			t.Errorf("a new writer of %d: left %d", c.size, w.Left())
		}
	}
}

// P2.5: a writer of MaxBytes can be filled, and no more.
func TestWriterAtTheLimit(t *testing.T) {
	w := newWriter(t, api.MaxBytes)
	all := bytes.Repeat([]byte{1, 2, 3, 4}, api.MaxBytes/4)
	w.Bytes(all)
	checkWriter(t, w, 0, all, api.OK)
	w.U8(5)
	checkWriter(t, w, 0, nil, api.ErrRest)
}

// P2.5: each width, with each number of bytes left.
func TestWriterOfNumbers(t *testing.T) {
	for _, width := range []int{1, 2, 4, 8} {
		for ahead := range 3 {
			for left := range 2*width + 2 {
				w := newWriter(t, ahead+left)
				w.Bytes(counting(ahead))
				layBy(w, width, 0xf1e2d3c4b5a69788)
				switch {
				case left < width:
					checkWriter(t, w, left, nil, api.ErrRest)
				case left > width:
					checkWriter(t, w, left-width, nil, api.ErrShort)
				default:
					want := slices.Concat(counting(ahead), littleOf(width, 0xf1e2d3c4b5a69788))
					checkWriter(t, w, 0, want, api.OK)
				}
			}
		}
	}
}

// P2.5: pieces of all sizes.
func TestWriterOfPieces(t *testing.T) {
	for size := range 6 {
		for n := range 8 {
			w := newWriter(t, size)
			w.Bytes(counting(n))
			switch {
			case n > size:
				checkWriter(t, w, size, nil, api.ErrRest)
			case n < size:
				checkWriter(t, w, size-n, nil, api.ErrShort)
			default:
				checkWriter(t, w, 0, counting(n), api.OK)
			}
		}
	}
}

// P2.5: the first error sticks: what would fit is not laid either.
func TestWriterErrorSticks(t *testing.T) {
	for _, spoil := range []func(w *Writer){
		func(w *Writer) { w.U64(1) },
		func(w *Writer) { w.Bytes(counting(8)) },
	} {
		w := newWriter(t, 9)
		w.U16(513)
		spoil(w)
		for _, width := range []int{1, 2, 4, 8} {
			layBy(w, width, 3)
			checkWriter(t, w, 7, nil, api.ErrRest)
		}
		for _, b := range [][]byte{nil, {}, {1}, counting(7), counting(8)} {
			w.Bytes(b)
			checkWriter(t, w, 7, nil, api.ErrRest)
		}
	}
}

// P2.5: an ErrShort of Done does not stick.
func TestWriterGoesOnBehindShort(t *testing.T) {
	w := newWriter(t, 3)
	w.U8(7)
	checkWriter(t, w, 2, nil, api.ErrShort)
	w.U16(513)
	checkWriter(t, w, 0, []byte{7, 1, 2}, api.OK)
}

// P2.5, R4: nothing fits everywhere.
func TestWriterOfNothing(t *testing.T) {
	w := newWriter(t, 0)
	checkWriter(t, w, 0, nil, api.OK)
	w.Bytes(nil)
	w.Bytes([]byte{})
	checkWriter(t, w, 0, nil, api.OK)
	w.Bytes([]byte{1})
	checkWriter(t, w, 0, nil, api.ErrRest)
}

// P2.5, R5: what is laid is not kept, what is done is new memory.
func TestWriterSharesNothing(t *testing.T) {
	w := newWriter(t, 6)
	whole := counting(8)
	b := whole[:4]
	w.Bytes(b)
	w.Bytes(b[:1])
	if !bytes.Equal(whole, counting(8)) {
		t.Errorf("what was handed in has changed: %v", whole)
	}
	b[0] = 99
	w.U8(77)
	first, _ := w.Done()
	second, _ := w.Done()
	for i := range first {
		first[i] = 0
	}
	_ = append(first, 5)
	want := []byte{1, 2, 3, 4, 1, 77}
	if !bytes.Equal(second, want) {
		t.Errorf("two answers share: %v", second)
	}
	checkWriter(t, w, 0, want, api.OK)
}

// P2.5, R3
func TestNilWriter(t *testing.T) {
	var w *Writer
	for _, width := range []int{1, 2, 4, 8} {
		layBy(w, width, 1)
	}
	w.Bytes(nil)
	w.Bytes([]byte{1})
	checkWriter(t, w, 0, nil, api.ErrNil)
}

// P2.7: what a writer laid, a reader takes again, number by number.
func TestWriterThenReader(t *testing.T) {
	source := rand.New(rand.NewSource(7))
	for range 500 {
		widths, words, size := []int{}, []uint64{}, 0
		for range source.Intn(20) {
			width := 1 << source.Intn(4)
			widths = append(widths, width)
			words = append(words, source.Uint64()>>(64-8*width))
			size += width
		}
		w := newWriter(t, size)
		for i, width := range widths {
			layBy(w, width, words[i])
		}
		b, e := w.Done()
		if e != api.OK {
			t.Fatalf("Done: %d", e)
		}
		r := NewReader(b)
		for i, width := range widths {
			if got := numberBy(r, width); got != words[i] {
				t.Errorf("number %d of %d bytes: %d, want %d", i, width, got, words[i])
			}
		}
		checkReader(t, r, 0, api.OK, api.OK)
	}
}
