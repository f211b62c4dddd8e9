package derive

import (
	"bytes"
	"encoding/hex"
	"testing"

	"tryst/api"
)

const (
	firstCode  = "b0344c61d8db38535ca8afceaf0bf12b881dc200c9833da726e9376c2e32cff7"
	secondCode = "5bdcc146bf60754e6a042426089575c75a003f089d2739839dec58b964ec3843"
	extracted  = "077709362c2e32df0ddc3f0dc47bba6390b6c73bb50f9c3122ec844ad7c2b3e5"
	derived    = "3cb25f25faacd57a90434f64d0362f2a2d2d0a90cf1a5a4c5db02d56ecc4c5bf34007208d5b887185865"
)

func checkHex(t *testing.T, what string, got []byte, want string) {
	t.Helper()
	if text := hex.EncodeToString(got); text != want {
		t.Errorf("%s = %s, want %s", what, text, want)
	}
}

// counted are n bytes, each one above the one ahead of it.
func counted(from byte, n int) []byte {
	b := make([]byte, n)
	for i := range b {
		b[i] = from + byte(i)
	}
	return b
}

// The chapter's table of examples, row by row.

func TestExamplesOfCodes(t *testing.T) {
	code := Sum(bytes.Repeat([]byte{0x0b}, 20), []byte("Hi There"))
	checkHex(t, "the first code", code[:], firstCode)
	code = Sum([]byte("Jefe"), []byte("what do ya "), []byte("want for nothing?"))
	checkHex(t, "the second code", code[:], secondCode)

	code = Sum([]byte("Jefe"), []byte("a"))
	if !Check([]byte("Jefe"), code, nil, []byte("a")) {
		t.Error("Check of the code is false")
	}
	if Check([]byte("Jef"), code, []byte("a")) {
		t.Error("Check under another key is true")
	}
}

func TestExamplesOfBytes(t *testing.T) {
	salt, secret, info := counted(0, 13), bytes.Repeat([]byte{0x0b}, 22), counted(0xf0, 10)
	row, err := Derive(salt, secret, info, 42)
	if err != api.OK {
		t.Errorf("Derive: %d", err)
	}
	checkHex(t, "Derive", row, derived)
	prk := Extract(salt, secret)
	checkHex(t, "Extract", prk[:], extracted)

	for _, c := range []struct {
		n   int
		err api.Errno
	}{{0, api.OK}, {-1, api.ErrArg}, {8161, api.ErrLong}} {
		if row, err := Expand(prk, nil, c.n); len(row) != 0 || err != c.err {
			t.Errorf("Expand of %d = %x, %d, want none, %d", c.n, row, err, c.err)
		}
	}
}

func TestExamplesOfKeys(t *testing.T) {
	salt, secret, info := []byte("salt"), []byte("secret"), []byte("info")
	row, err := Derive(salt, secret, info, 64)
	if err != api.OK || len(row) != 64 {
		t.Fatalf("Derive = %x, %d", row, err)
	}
	keys, err := Keys(salt, secret, info, 2)
	if err != api.OK || len(keys) != 2 || keys[0] != api.Key(row[:32]) || keys[1] != api.Key(row[32:]) {
		t.Errorf("Keys = %x, %d, want %x", keys, err, row)
	}
	for _, c := range []struct {
		n   int
		err api.Errno
	}{{0, api.OK}, {-1, api.ErrArg}, {256, api.ErrLong}} {
		if keys, err := Keys(salt, secret, info, c.n); len(keys) != 0 || err != c.err {
			t.Errorf("Keys of %d = %x, %d, want none, %d", c.n, keys, err, c.err)
		}
	}
}
