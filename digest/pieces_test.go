package digest

import (
	"bytes"
	"math/rand"
	"testing"

	"tryst/api"
)

// cut cuts b into pieces of one size, of which the last may be shorter.
func cut(b []byte, size int) [][]byte {
	var pieces [][]byte
	for len(b) > 0 {
		n := min(size, len(b))
		pieces, b = append(pieces, b[:n]), b[n:]
	}
	return pieces
}

// checkPieces holds all ways to the digest of the whole: parts, writes, and writes with questions between.
func checkPieces(t *testing.T, pieces [][]byte) {
	t.Helper()
	want := wanted(bytes.Join(pieces, nil))
	if got := Sum(pieces...); got != want {
		t.Fatalf("Sum of %d parts = %x, want %x", len(pieces), got, want)
	}
	quiet, asked, size := New(), New(), 0
	for _, piece := range pieces {
		checkWrite(t, quiet, piece)
		asked.Sum()
		checkWrite(t, asked, piece)
		size += len(piece)
		checkLen(t, "between pieces", asked, size)
		asked.Sum()
		asked.Copy().Write(piece)
	}
	for what, h := range map[string]*Hash{"quiet": quiet, "asked": asked} {
		checkLen(t, what, h, size)
		if got := h.Sum(); got != want {
			t.Fatalf("%s, %d pieces: Sum = %x, want %x", what, len(pieces), got, want)
		}
	}
}

// P3.6: pieces of all sizes, of texts that end about the ends of blocks.
func TestPiecesOfAllSizes(t *testing.T) {
	whole := drawn(20, 3*64+1)
	for _, n := range []int{0, 1, 54, 55, 56, 57, 62, 63, 64, 65, 119, 120, 127, 128, 129, 183, 184, 191, 192, 193} {
		for size := 1; size <= n+1; size++ {
			checkPieces(t, cut(whole[:n], size))
		}
	}
}

// P3.6: two pieces, cut at every place.
func TestTwoPieces(t *testing.T) {
	whole := drawn(21, 200)
	for _, n := range []int{55, 56, 64, 128, 200} {
		for at := range n + 1 {
			checkPieces(t, [][]byte{whole[:at], whole[at:n]})
		}
	}
}

// P3.6: drawn pieces, empty and nil ones among them.
func TestDrawnPieces(t *testing.T) {
	source := rand.New(rand.NewSource(22))
	for range 1000 {
		pieces := [][]byte{nil}
		for range source.Intn(12) {
			piece := make([]byte, source.Intn(source.Intn(150)+1))
			source.Read(piece)
			pieces = append(pieces, piece)
		}
		checkPieces(t, pieces)
	}
}

// P3.2 to P3.4, P3.6: drawn lives of some hashes, held against the bytes that each of them has.
func TestLivesOfHashes(t *testing.T) {
	source := rand.New(rand.NewSource(23))
	for range 200 {
		hashes, held := []*Hash{New()}, [][]byte{nil}
		for range 60 {
			at := source.Intn(len(hashes))
			switch source.Intn(10) {
			case 0:
				hashes[at].Reset()
				held[at] = nil
			case 1, 2:
				hashes = append(hashes, hashes[at].Copy())
				held = append(held, bytes.Clone(held[at]))
			default:
				b := make([]byte, source.Intn(100))
				source.Read(b)
				checkWrite(t, hashes[at], b)
				held[at] = append(held[at], b...)
			}
			checkHolds(t, "in a life", hashes[at], held[at])
		}
		for i, h := range hashes {
			checkHolds(t, "at a life's end", h, held[i])
		}
	}
}

// R6: one text, one digest, whatever was worked out ahead of it.
func TestSumHangsOnItsPartsAlone(t *testing.T) {
	first := map[int]api.Hash{}
	whole := drawn(24, 300)
	for round := range 3 {
		for n := range len(whole) + 1 {
			got := Sum(whole[:n])
			if round == 0 {
				first[n] = got
			}
			if got != first[n] {
				t.Fatalf("Sum of %d bytes has changed", n)
			}
		}
	}
}
