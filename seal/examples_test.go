package seal

import (
	"bytes"
	"encoding/hex"
	"strings"
	"testing"

	"tryst/api"
)

const allOnes = ^uint64(0)

// unhex takes hexadecimal digits, between which there may be blanks.
func unhex(digits string) []byte {
	b, err := hex.DecodeString(strings.Join(strings.Fields(digits), ""))
	if err != nil {
		panic(err)
	}
	return b
}

// given is what the box of the chapter's last example is made of.
func given() (key api.Key, nonce api.Nonce, more, text []byte) {
	for i := range key {
		key[i] = 0x80 + byte(i)
	}
	const ladies = "Ladies and Gentlemen of the class of '99: If I could offer you only one tip for the future, sunscreen would be it."
	return key, api.Nonce(unhex("07000000 4041424344454647")), unhex("50515253 c0c1c2c3c4c5c6c7"), []byte(ladies)
}

func checkBytes(t *testing.T, what string, got, want []byte) {
	t.Helper()
	if !bytes.Equal(got, want) {
		t.Fatalf("%s = %x, want %x", what, got, want)
	}
}

func sealed(t *testing.T, key api.Key, nonce api.Nonce, more, text []byte) []byte {
	t.Helper()
	box, err := Seal(key, nonce, more, text)
	if err != api.OK {
		t.Fatalf("Seal of %d bytes with %d more: %d", len(text), len(more), err)
	}
	return box
}

// checkOpens holds Open and Peek to one text.
func checkOpens(t *testing.T, key api.Key, nonce api.Nonce, more, box, want []byte) {
	t.Helper()
	text, err := Open(key, nonce, more, box)
	if err != api.OK || !bytes.Equal(text, want) {
		t.Fatalf("Open of %d bytes with %d more = %x, %d, want %x", len(box), len(more), text, err, want)
	}
	text, right, err := Peek(key, nonce, more, box)
	if err != api.OK || right != allOnes || !bytes.Equal(text, want) {
		t.Fatalf("Peek of %d bytes with %d more = %x, %#x, %d, want %x", len(box), len(more), text, right, err, want)
	}
}

// checkWrongTag holds Open to ErrTag, and Peek to bytes 0 and no error.
func checkWrongTag(t *testing.T, what string, key api.Key, nonce api.Nonce, more, box []byte) {
	t.Helper()
	text, err := Open(key, nonce, more, box)
	if err != api.ErrTag || len(text) != 0 {
		t.Fatalf("%s: Open of %d bytes with %d more = %x, %d", what, len(box), len(more), text, err)
	}
	text, right, err := Peek(key, nonce, more, box)
	if err != api.OK || right != 0 || !bytes.Equal(text, make([]byte, len(box)-16)) {
		t.Fatalf("%s: Peek of %d bytes with %d more = %x, %#x, %d", what, len(box), len(more), text, right, err)
	}
}

// checkRefused holds Open and Peek to one error, with nothing beside it.
func checkRefused(t *testing.T, more, box []byte, want api.Errno) {
	t.Helper()
	key, nonce, _, _ := given()
	text, err := Open(key, nonce, more, box)
	if err != want || len(text) != 0 {
		t.Fatalf("Open of %d bytes with %d more = %d bytes, %d, want %d", len(box), len(more), len(text), err, want)
	}
	text, right, err := Peek(key, nonce, more, box)
	if err != want || right != 0 || len(text) != 0 {
		t.Fatalf("Peek of %d bytes with %d more = %d bytes, %#x, %d, want %d", len(box), len(more), len(text), right, err, want)
	}
}

// The chapter's table of examples, row by row.

func TestExampleOfNonce(t *testing.T) {
	nonce := Nonce(1, 258)
	checkBytes(t, "Nonce(1, 258)", nonce[:], unhex("01 00 00 00 02 01 00 00 00 00 00 00"))
}

func TestExamplesOfBoxes(t *testing.T) {
	key, nonce, more, text := given()
	empty := sealed(t, key, nonce, nil, nil)
	checkBytes(t, "Seal of no text", empty, wantedTag(key, nonce, nil, nil))
	checkOpens(t, key, nonce, nil, empty, nil)

	box := sealed(t, key, nonce, more, text)
	checkRefused(t, more, box[:15], api.ErrLength)
	turned := bytes.Clone(box)
	turned[len(turned)-1] ^= 0x80
	checkWrongTag(t, "the last bit turned", key, nonce, more, turned)
	checkWrongTag(t, "another more", key, nonce, append(bytes.Clone(more), 1), box)
}

func TestExampleOfTheStandard(t *testing.T) {
	key, nonce, more, text := given()
	box := sealed(t, key, nonce, more, text)
	checkBytes(t, "the box", box, unhex(`
		d31a8d34648e60db7b86afbc53ef7ec2 a4aded51296e08fea9e2b5a736ee62d6
		3dbea45e8ca9671282fafb69da92728b 1a71de0a9e060b2905d6a5b67ecd3b36
		92ddbd7f2d778b8c9803aee328091b58 fab324e4fad675945585808b4831d7bc
		3ff4def08e4b7a9de576d26586cec64b 6116
		1ae10b594f09e26a7e902ecbd0600691`))
	checkOpens(t, key, nonce, more, box, text)
}
