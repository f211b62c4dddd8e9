package stream

import (
	"encoding/hex"
	"math"
	"strings"
	"testing"

	"tryst/api"
)

// key0to31 is the key of the chapter's examples.
func key0to31() (key api.Key) {
	for i := range key {
		key[i] = byte(i)
	}
	return key
}

// checkBytes holds bytes to hexadecimal digits, between which there may be blanks.
func checkBytes(t *testing.T, what string, got []byte, digits string) {
	t.Helper()
	want, err := hex.DecodeString(strings.Join(strings.Fields(digits), ""))
	if err != nil || string(got) != string(want) {
		t.Errorf("%s = %x, want %x", what, got, want)
	}
}

func checkAt(t *testing.T, s *Stream, want uint64) {
	t.Helper()
	for range 2 { // asking changes nothing
		if got := s.At(); got != want {
			t.Fatalf("At = %d, want %d", got, want)
		}
	}
}

// checkXor lays so many bytes 0 over; with an error none come out.
func checkXor(t *testing.T, s *Stream, n int, want api.Errno) {
	t.Helper()
	out, err := s.Xor(make([]byte, n))
	if err != want {
		t.Fatalf("Xor of %d bytes: %d, want %d", n, err, want)
	}
	if want != api.OK {
		n = 0
	}
	if len(out) != n {
		t.Fatalf("Xor answers %d bytes, want %d", len(out), n)
	}
}

func checkSkip(t *testing.T, s *Stream, n int, want api.Errno) {
	t.Helper()
	if err := s.Skip(n); err != want {
		t.Fatalf("Skip(%d) = %d, want %d", n, err, want)
	}
}

// The chapter's table of examples, row by row.

func TestExamplesOfWords(t *testing.T) {
	a, b, c, d := Quarter(0x11111111, 0x01020304, 0x9b8d6f43, 0x01234567)
	if a != 0xea2a92f4 || b != 0xcb1cf8ce || c != 0x4581472e || d != 0x5881c4bb {
		t.Errorf("Quarter = %#x, %#x, %#x, %#x", a, b, c, d)
	}
	a, b, c, d = Quarter(0, 0, 0, 0)
	if a != 0 || b != 0 || c != 0 || d != 0 {
		t.Errorf("Quarter of zeros = %#x, %#x, %#x, %#x", a, b, c, d)
	}
	block := Block(key0to31(), 1, api.Nonce{0, 0, 0, 9, 0, 0, 0, 74, 0, 0, 0, 0})
	checkBytes(t, "the beginning of Block", block[:8], "10 f1 e7 e4 d1 3b 59 15")
}

func TestExamplesOfStreams(t *testing.T) {
	s := New(key0to31(), api.Nonce{1}, 7)
	checkAt(t, s, 448)
	checkXor(t, s, 65, api.OK)
	checkAt(t, s, 513)
	checkSkip(t, s, 0, api.OK)
	checkSkip(t, s, -1, api.ErrArg)
	checkAt(t, s, 513)

	s = New(key0to31(), api.Nonce{1}, math.MaxUint32)
	checkXor(t, s, 65, api.ErrCounter)
	checkXor(t, s, 64, api.OK)
	checkAt(t, s, 1<<38)
	checkXor(t, s, 0, api.OK)
	checkSkip(t, s, 1, api.ErrCounter)

	s = nil
	checkXor(t, s, 1, api.ErrNil)
	checkSkip(t, s, 1, api.ErrNil)
	checkAt(t, s, 0)
}
