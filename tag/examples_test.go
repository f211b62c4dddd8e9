package tag

import (
	"bytes"
	"encoding/hex"
	"strings"
	"testing"

	"tryst/api"
)

const (
	firstKey  = "85d6be78 57556d33 7f4452fe 42d506a8 0103808a fb0db2fd 4abff6af 4149f51b"
	firstText = "Cryptographic Forum Research Group"
	firstCode = "a8061dc1 305136c6 c22b8baf 0c0127a9"
)

// unhex takes hexadecimal digits, between which there may be blanks.
func unhex(digits string) []byte {
	b, err := hex.DecodeString(strings.Join(strings.Fields(digits), ""))
	if err != nil {
		panic(err)
	}
	return b
}

// keyOf fills up with bytes 0 what the digits leave open.
func keyOf(digits string) (key api.Key) {
	copy(key[:], unhex(digits))
	return key
}

func tagOf(digits string) (tag api.Tag) {
	copy(tag[:], unhex(digits))
	return tag
}

func repeated(b byte, n int) []byte { return bytes.Repeat([]byte{b}, n) }

func checkTag(t *testing.T, what string, got, want api.Tag) {
	t.Helper()
	if got != want {
		t.Fatalf("%s = %x, want %x", what, got, want)
	}
}

func checkWrite(t *testing.T, p *Poly, b []byte) {
	t.Helper()
	if n, err := p.Write(b); n != len(b) || err != nil {
		t.Fatalf("Write of %d bytes = %d, %v", len(b), n, err)
	}
}

// The chapter's table of examples, row by row.

func TestExamplesOfSum(t *testing.T) {
	key, text := keyOf(firstKey), []byte(firstText)
	checkTag(t, "the first code", Sum(key, text), tagOf(firstCode))
	checkTag(t, "the same in pieces", Sum(key, []byte("Crypto"), []byte(""), []byte("graphic Forum Research Group")), tagOf(firstCode))
	checkTag(t, "of no bytes", Sum(key), tagOf("0103808a fb0db2fd 4abff6af 4149f51b"))
	checkTag(t, "under a key of bytes 0", Sum(api.Key{}, text), api.Tag{})
	checkTag(t, "bytes ff under 2", Sum(api.Key{2}, repeated(0xff, 16)), api.Tag{3})

	key = api.Key{2}
	copy(key[16:], repeated(0xff, 16))
	checkTag(t, "bytes 00 under 2", Sum(key, make([]byte, 16)), api.Tag(repeated(0xff, 16)))
}

func TestExamplesOfCheck(t *testing.T) {
	key, text := keyOf(firstKey), []byte(firstText)
	tag := Sum(key, text)
	if !Check(key, tag, text) {
		t.Error("Check of the code is false")
	}
	tag[15]++
	if Check(key, tag, text) {
		t.Error("Check of another last byte is true")
	}
}

func TestExamplesOfPolys(t *testing.T) {
	key := keyOf(firstKey)
	p := New(key)
	checkWrite(t, p, []byte("Crypto"))
	checkTag(t, "Sum between", p.Sum(), Sum(key, []byte("Crypto")))
	checkWrite(t, p, []byte("graphic Forum Research Group"))
	checkTag(t, "Sum", p.Sum(), tagOf(firstCode))
}
