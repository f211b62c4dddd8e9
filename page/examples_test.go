package page

import (
	"bytes"
	"encoding/hex"
	"strings"
	"testing"

	"tryst/api"
)

const mostBytes = api.MaxText + api.PageSize

// unhex takes hexadecimal digits, between which there may be blanks.
func unhex(digits string) []byte {
	b, err := hex.DecodeString(strings.Join(strings.Fields(digits), ""))
	if err != nil {
		panic(err)
	}
	return b
}

// counted is a key of rising bytes.
func counted(from byte) api.Key {
	var key api.Key
	for i := range key {
		key[i] = from + byte(i)
	}
	return key
}

// at is a place in one line.
func at(round uint64, counter, page, version uint32) api.Place {
	return api.Place{Round: round, Counter: counter, Page: page, Version: version}
}

func checkBytes(t *testing.T, what string, got, want []byte) {
	t.Helper()
	if !bytes.Equal(got, want) {
		t.Fatalf("%s = %x, want %x", what, got, want)
	}
}

func sealed(t *testing.T, key api.Key, p api.Place, text []byte) []byte {
	t.Helper()
	box, err := Seal(key, p, text)
	if err != api.OK {
		t.Fatalf("Seal at %v of %d bytes: %d", p, len(text), err)
	}
	return box
}

func checkSealRefused(t *testing.T, p api.Place, text []byte) {
	t.Helper()
	if box, err := Seal(counted(1), p, text); err != api.ErrLong || len(box) != 0 {
		t.Fatalf("Seal at %v of %d bytes = %d bytes, %d", p, len(text), len(box), err)
	}
}

func checkOpens(t *testing.T, key api.Key, p api.Place, box, want []byte) {
	t.Helper()
	text, err := Open(key, p, box)
	if err != api.OK || !bytes.Equal(text, want) {
		t.Fatalf("Open at %v of %d bytes = %x, %d, want %x", p, len(box), text, err, want)
	}
}

func checkOpenRefused(t *testing.T, what string, key api.Key, p api.Place, box []byte) {
	t.Helper()
	if text, err := Open(key, p, box); err != api.ErrIntegrity || len(text) != 0 {
		t.Fatalf("%s: Open at %v of %d bytes = %x, %d", what, p, len(box), text, err)
	}
}

func checkHead(t *testing.T, box []byte, wantRound uint64, wantCounter uint32) {
	t.Helper()
	if round, counter, err := Head(box); err != api.OK || round != wantRound || counter != wantCounter {
		t.Fatalf("Head of %d bytes = %#x, %#x, %d, want %#x, %#x", len(box), round, counter, err, wantRound, wantCounter)
	}
}

func checkHeadRefused(t *testing.T, box []byte) {
	t.Helper()
	if round, counter, err := Head(box); err != api.ErrShort || round != 0 || counter != 0 {
		t.Fatalf("Head of %d bytes = %#x, %#x, %d", len(box), round, counter, err)
	}
}

// The chapter's table of examples, row by row.

func TestExamplesOfOnePage(t *testing.T) {
	key, place, text := counted(1), at(1, 0, 5, 1), bytes.Repeat([]byte("page"), 25)
	box := sealed(t, key, place, text)
	if len(box) != 128 {
		t.Fatalf("the page of 100 bytes has %d", len(box))
	}
	checkBytes(t, "the head", box[:12], unhex("01 00 00 00 00 00 00 00 00 00 00 00"))
	checkOpens(t, key, place, box, text)
	checkHead(t, box, 1, 0)

	for _, other := range []api.Place{at(1, 1, 5, 1), at(2, 0, 5, 1), at(1, 0, 6, 1), at(1, 0, 5, 2)} {
		checkOpenRefused(t, "another place", key, other, box)
	}
	checkOpenRefused(t, "another key", counted(2), place, box)
	checkOpenRefused(t, "the first 127 bytes", key, place, box[:127])
	box[127] ^= 1
	checkOpenRefused(t, "the last byte turned", key, place, box)
}

func TestExamplesOfLengths(t *testing.T) {
	key, place := counted(1), at(1, 0, 5, 1)
	empty := sealed(t, key, place, nil)
	if len(empty) != 28 {
		t.Fatalf("the page of no text has %d bytes", len(empty))
	}
	checkOpens(t, key, place, empty, nil)

	sealed(t, key, place, make([]byte, 4096))
	checkSealRefused(t, place, make([]byte, 4097))
	checkOpenRefused(t, "27 bytes", key, place, make([]byte, 27))
	checkOpenRefused(t, "4125 bytes", key, place, make([]byte, 4125))
	checkHeadRefused(t, make([]byte, 27))
	checkHead(t, bytes.Repeat([]byte{1}, 28), 0x0101010101010101, 0x01010101)
}
