package digest

import (
	"bytes"
	"crypto/sha256"
	"errors"
	"math/rand"
	"testing"

	"tryst/api"
)

// drawn are bytes that are the same in every run.
func drawn(seed int64, n int) []byte {
	b := make([]byte, n)
	rand.New(rand.NewSource(seed)).Read(b)
	return b
}

// wanted is what the library says.
func wanted(b []byte) api.Hash { return sha256.Sum256(b) }

// P3.1: all lengths about 55, 56, 63, 64 and their multiples, of bytes of several kinds.
func TestSumOfAllLengths(t *testing.T) {
	const most = 5*64 + 2
	for _, whole := range [][]byte{
		make([]byte, most), bytes.Repeat([]byte{255}, most), bytes.Repeat([]byte{0x80}, most), drawn(1, most),
	} {
		for n := range most + 1 {
			if got := Sum(whole[:n]); got != wanted(whole[:n]) {
				t.Errorf("Sum of %d bytes as %d = %x", n, whole[0], got)
			}
		}
	}
}

// P3.1: every bit of a block counts, and one more block behind it.
func TestSumOfSingleBits(t *testing.T) {
	for _, n := range []int{64, 128} {
		for bit := range 8 * n {
			b := make([]byte, n)
			b[bit/8] = 1 << (bit % 8)
			if got := Sum(b); got != wanted(b) {
				t.Errorf("Sum of %d bytes with the bit %d = %x", n, bit, got)
			}
		}
	}
}

// P3.1: lengths whose number of bits takes two, three and four bytes.
func TestSumOfLongTexts(t *testing.T) {
	whole := drawn(2, 1<<21+64)
	for _, about := range []int{1 << 5, 1 << 13, 1 << 16, 1 << 21} {
		for n := about - 2; n <= about+2; n++ {
			if got := Sum(whole[:n]); got != wanted(whole[:n]) {
				t.Errorf("Sum of %d bytes = %x", n, got)
			}
		}
	}
}

// P3.1 to P3.3: 2^29 bytes and more, whose number of bits does not fit into 32 bits.
func TestSumBeyond32BitsOfBits(t *testing.T) {
	t.Parallel()
	piece, h, library := drawn(3, 1<<20), New(), sha256.New()
	for range 1 << 9 {
		checkWrite(t, h, piece)
		library.Write(piece)
	}
	checkWrite(t, h, piece[:5])
	library.Write(piece[:5])
	if got := h.Sum(); !bytes.Equal(got[:], library.Sum(nil)) {
		t.Errorf("Sum = %x", got)
	}
	checkLen(t, "a long one", h, 1<<29+5)
}

// P3.1, R4: no part, nil parts and empty parts, alone and among others.
func TestSumOfEmptyParts(t *testing.T) {
	for _, parts := range [][][]byte{nil, {}, {nil}, {{}}, {nil, {}, nil}} {
		checkDigest(t, "Sum of nothing", Sum(parts...), ofNothing)
	}
	for _, parts := range [][][]byte{
		{nil, []byte("abc")}, {[]byte("abc"), nil}, {{}, []byte("a"), nil, {}, []byte("b"), nil, []byte("c"), {}},
	} {
		checkDigest(t, "Sum of abc", Sum(parts...), ofABC)
	}
}

// P3.1: the order of the parts counts.
func TestSumKeepsTheOrder(t *testing.T) {
	a, b := []byte("a"), []byte("bc")
	if Sum(b, a) != wanted([]byte("bca")) || Sum(b, a) == Sum(a, b) {
		t.Errorf("Sum(bc, a) = %x", Sum(b, a))
	}
}

// P3.2, R4: writing nothing changes nothing, and is no error.
func TestWriteOfNothing(t *testing.T) {
	h := New()
	for _, b := range [][]byte{nil, {}} {
		checkWrite(t, h, b)
		checkLen(t, "a new one", h, 0)
		checkDigest(t, "a new one", h.Sum(), ofNothing)
	}
	checkWrite(t, h, []byte("abc"))
	for _, b := range [][]byte{nil, {}} {
		checkWrite(t, h, b)
		checkLen(t, "abc", h, 3)
		checkDigest(t, "abc", h.Sum(), ofABC)
	}
}

// P3.2: new hashes have nothing to do with one another.
func TestNewHashesAreApart(t *testing.T) {
	h, g := New(), New()
	checkWrite(t, h, drawn(4, 100))
	checkLen(t, "the other", g, 0)
	checkDigest(t, "the other", g.Sum(), ofNothing)
	checkDigest(t, "a third", New().Sum(), ofNothing)
	checkDigest(t, "Sum", Sum(), ofNothing)
}

// P3.3: asking changes nothing, at whatever length it is done, and however often.
func TestAskingChangesNothing(t *testing.T) {
	whole := drawn(5, 200)
	for n := range len(whole) + 1 {
		h := New()
		checkWrite(t, h, whole[:n])
		before := *h
		for range 3 {
			if got := h.Sum(); got != wanted(whole[:n]) {
				t.Fatalf("%d bytes: Sum = %x", n, got)
			}
			checkLen(t, "asked again", h, n)
		}
		if *h != before {
			t.Fatalf("%d bytes: the hash has changed", n)
		}
		checkWrite(t, h, whole[n:])
		if got := h.Sum(); got != wanted(whole) {
			t.Fatalf("asked at %d bytes: Sum of all = %x", n, got)
		}
	}
}

// P3.4: whichever of the two goes on, the other stays; and a copy of a copy likewise.
func TestCopiesGoTheirOwnWay(t *testing.T) {
	whole, one, two := drawn(6, 200), drawn(7, 150), drawn(8, 90)
	for n := range len(whole) + 1 {
		h := New()
		checkWrite(t, h, whole[:n])
		g := h.Copy()
		k := g.Copy()
		checkWrite(t, h, one)
		checkHolds(t, "a copy, as the first goes on", g, whole[:n])
		checkWrite(t, g, two)
		checkHolds(t, "the first, as its copy goes on", h, append(whole[:n:n], one...))
		checkHolds(t, "the copy", g, append(whole[:n:n], two...))
		checkHolds(t, "a copy's copy", k, whole[:n])
		h.Reset()
		checkHolds(t, "the copy behind Reset of the first", g, append(whole[:n:n], two...))
		g.Reset()
		checkHolds(t, "a copy's copy behind Reset of the copy", k, whole[:n])
	}
}

func checkHolds(t *testing.T, what string, h *Hash, b []byte) {
	t.Helper()
	checkLen(t, what, h, len(b))
	if got := h.Sum(); got != wanted(b) {
		t.Fatalf("%s: Sum = %x, want that of %d bytes", what, got, len(b))
	}
}

// P3.4: behind Reset nothing is left of what was written, at whatever length.
func TestResetForgets(t *testing.T) {
	whole, later := drawn(9, 200), drawn(10, 77)
	h := New()
	h.Reset()
	checkHolds(t, "a new one", h, nil)
	for n := range len(whole) + 1 {
		checkWrite(t, h, whole[:n])
		h.Reset()
		checkHolds(t, "behind Reset", h, nil)
		h.Reset()
		checkWrite(t, h, later)
		checkHolds(t, "written to anew", h, later)
		h.Reset()
		if *h != *New() {
			t.Fatalf("behind Reset of %d bytes something is kept", n)
		}
	}
}

// LANGUAGE 8: no byte is kept that was taken in with its block.
func TestHashKeepsOnlyTheOpenBlock(t *testing.T) {
	whole := drawn(11, 200)
	for n := range len(whole) + 1 {
		h := New()
		checkWrite(t, h, whole[:n])
		var open [blockSize]byte
		copy(open[:], whole[n-n%blockSize:n])
		if h.block != open {
			t.Fatalf("%d bytes: the block holds %x", n, h.block)
		}
	}
}

// P3.5, R3
func TestNilHash(t *testing.T) {
	var h *Hash
	for _, b := range [][]byte{nil, {}, {1}, make([]byte, 100)} {
		n, err := h.Write(b)
		if n != 0 || err != error(api.ErrNil) || !errors.Is(err, api.ErrNil) {
			t.Errorf("Write of %d bytes = %d, %v", len(b), n, err)
		}
	}
	if got := h.Sum(); got != (api.Hash{}) {
		t.Errorf("Sum = %x", got)
	}
	if got := h.Len(); got != 0 {
		t.Errorf("Len = %d", got)
	}
	if got := h.Copy(); got != nil {
		t.Errorf("Copy = %v", got)
	}
	h.Reset()
}

// R5: what is handed in stays as it is, with the room behind its end.
func TestArgumentsStay(t *testing.T) {
	whole := drawn(12, 300)
	kept := bytes.Clone(whole)
	for n := range 200 {
		h := New()
		checkWrite(t, h, whole[:n])
		h.Sum()
		checkWrite(t, h, whole[n:n+64])
		parts := [][]byte{whole[:n], whole[n : n+30], nil}
		Sum(parts...)
		if !bytes.Equal(whole, kept) {
			t.Fatalf("an argument of %d bytes has changed", n)
		}
		if len(parts[0]) != n || len(parts[1]) != 30 || parts[2] != nil {
			t.Fatalf("the list of parts has changed")
		}
	}
}

// R5: what was handed in is not kept, whether it filled a block or not.
func TestArgumentsAreNotKept(t *testing.T) {
	for n := range 200 {
		b := drawn(13, n)
		kept := bytes.Clone(b)
		h := New()
		checkWrite(t, h, b)
		clear(b)
		checkHolds(t, "behind a change of what was written", h, kept)
	}
}
