package digest

import (
	"bytes"
	"encoding/hex"
	"strings"
	"testing"

	"tryst/api"
)

const (
	ofNothing    = "e3b0c442 98fc1c14 9afbf4c8 996fb924 27ae41e4 649b934c a495991b 7852b855"
	ofABC        = "ba7816bf 8f01cfea 414140de 5dae2223 b00361a3 96177a9c b410ff61 f20015ad"
	ofFiftySix   = "248d6a61 d20638b8 e5c02693 0c3e6039 a33ce459 64ff2167 f6ecedd4 19db06c1"
	ofAMillion   = "cdc76e5c 9914fb92 81a1c7e2 84d73e67 f1809a48 a497200e 046d39cc c7112cd0"
	fiftySixText = "abcdbcdecdefdefgefghfghighijhijkijkljklmklmnlmnomnopnopq"
)

func checkDigest(t *testing.T, what string, got api.Hash, want string) {
	t.Helper()
	if text := hex.EncodeToString(got[:]); text != strings.ReplaceAll(want, " ", "") {
		t.Errorf("%s = %s, want %s", what, text, want)
	}
}

// checkWrite writes b, and holds the answer to P3.2.
func checkWrite(t *testing.T, h *Hash, b []byte) {
	t.Helper()
	if n, err := h.Write(b); n != len(b) || err != nil {
		t.Fatalf("Write of %d bytes = %d, %v", len(b), n, err)
	}
}

func checkLen(t *testing.T, what string, h *Hash, want int) {
	t.Helper()
	if got := h.Len(); got != uint64(want) {
		t.Errorf("%s: Len = %d, want %d", what, got, want)
	}
}

// The chapter's table of examples, row by row.

func TestExamplesOfSum(t *testing.T) {
	checkDigest(t, "Sum()", Sum(), ofNothing)
	checkDigest(t, "Sum of no bytes", Sum([]byte{}), ofNothing)
	checkDigest(t, "New().Sum()", New().Sum(), ofNothing)
	checkDigest(t, "Sum(abc)", Sum([]byte("abc")), ofABC)
	checkDigest(t, "Sum(a, , bc)", Sum([]byte("a"), []byte(""), []byte("bc")), ofABC)
	checkDigest(t, "Sum of 56 bytes", Sum([]byte(fiftySixText)), ofFiftySix)
	checkDigest(t, "Sum of a million", Sum(bytes.Repeat([]byte("a"), 1000000)), ofAMillion)
}

func TestExamplesOfHash(t *testing.T) {
	h := New()
	checkWrite(t, h, []byte("ab"))
	g := h.Copy()
	checkWrite(t, h, []byte("c"))
	checkLen(t, "the first", h, 3)
	checkLen(t, "its copy", g, 2)

	checkDigest(t, "the first", h.Sum(), ofABC)
	checkWrite(t, g, []byte("c"))
	checkDigest(t, "its copy", g.Sum(), ofABC)

	h.Reset()
	checkLen(t, "behind Reset", h, 0)
	checkDigest(t, "behind Reset", h.Sum(), ofNothing)
}
