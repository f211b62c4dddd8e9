package derive

import (
	"bytes"
	"crypto/hmac"
	"crypto/sha256"
	"errors"
	"math/rand"
	"testing"

	"tryst/api"
)

// anyBytes are the first n bytes of a row that hangs on its number alone.
func anyBytes(number byte, n int) (b []byte) {
	for at := byte(0); len(b) < n; at++ {
		row := sha256.Sum256([]byte{number, at, byte(len(b) / 8192)})
		b = append(b, row[:]...)
	}
	return b[:n:n]
}

// libraryCode is what the library says.
func libraryCode(key, text []byte) api.Hash {
	mac := hmac.New(sha256.New, key)
	mac.Write(text)
	return api.Hash(mac.Sum(nil))
}

func checkCode(t *testing.T, what string, got api.Hash, key, text []byte) {
	t.Helper()
	if want := libraryCode(key, text); got != want {
		t.Fatalf("%s: a key of %d bytes, a text of %d: %x, want %x", what, len(key), len(text), got, want)
	}
}

func writeAll(t *testing.T, m *Mac, pieces ...[]byte) {
	t.Helper()
	for _, b := range pieces {
		if n, err := m.Write(b); n != len(b) || err != nil {
			t.Fatalf("Write of %d bytes = %d, %v", len(b), n, err)
		}
	}
}

// P4.1, P4.2, P4.8: keys of all lengths about 64 and above, with texts that end about the ends of blocks.
func TestCodesUnderKeysOfAllLengths(t *testing.T) {
	keys, texts := anyBytes(1, 200), anyBytes(2, 200)
	for n := range len(keys) + 1 {
		for _, size := range []int{0, 1, 31, 32, 55, 56, 63, 64, 65, 128, 200} {
			key, text := keys[:n], texts[:size]
			checkCode(t, "Sum", Sum(key, text), key, text)
			m := New(key)
			checkCode(t, "a new Mac", m.Sum(), key, nil)
			writeAll(t, m, text)
			checkCode(t, "a Mac", m.Sum(), key, text)
		}
	}
}

// P4.2: texts of all lengths up to some blocks, and a long key with a long text.
func TestCodesOfAllLengths(t *testing.T) {
	key, whole := anyBytes(3, 32), anyBytes(4, 100000)
	for n := range 300 {
		checkCode(t, "Sum", Sum(key, whole[:n]), key, whole[:n])
	}
	checkCode(t, "Sum", Sum(whole, whole), whole, whole)
}

// P4.2, R4: no part, nil and empty parts, alone and among others; and no key.
func TestCodesOfEmptyParts(t *testing.T) {
	for _, key := range [][]byte{nil, {}, []byte("key"), anyBytes(5, 65)} {
		for _, parts := range [][][]byte{nil, {}, {nil}, {{}}, {nil, {}, nil}} {
			code := Sum(key, parts...)
			checkCode(t, "Sum of nothing", code, key, nil)
			if !Check(key, code, parts...) || !Check(key, code) || Check(key, code, []byte{0}) {
				t.Error("Check of the code of nothing")
			}
		}
		parts := [][]byte{nil, []byte("a"), {}, nil, []byte("bc"), {}}
		code := Sum(key, parts...)
		checkCode(t, "Sum of abc", code, key, []byte("abc"))
		if !Check(key, code, parts...) || !Check(key, code, []byte("abc")) {
			t.Error("Check of the code of abc")
		}
	}
}

// P4.2: the order of the parts counts.
func TestCodesKeepTheOrder(t *testing.T) {
	key, a, b := []byte("key"), []byte("a"), []byte("bc")
	code := Sum(key, b, a)
	checkCode(t, "Sum", code, key, []byte("bca"))
	if !Check(key, code, b, a) || Check(key, code, a, b) {
		t.Error("Check does not keep the order")
	}
}

// turned is a code with some of its bits turned.
func turned(code api.Hash, bits ...int) api.Hash {
	for _, bit := range bits {
		code[bit/8] ^= 1 << (bit % 8)
	}
	return code
}

// P4.2: a code that is wrong in one bit, in two, or throughout, is not the code.
func TestCheckOfWrongCodes(t *testing.T) {
	key, text := anyBytes(6, 40), anyBytes(7, 90)
	code := libraryCode(key, text)
	if !Check(key, code, text[:50], text[50:]) {
		t.Error("Check of the code is false")
	}
	var all []int
	for bit := range 8 * len(code) {
		if Check(key, turned(code, bit), text) {
			t.Errorf("Check of a code with the bit %d turned is true", bit)
		}
		for other := bit + 8; other < 8*len(code); other += 8 {
			if Check(key, turned(code, bit, other), text) {
				t.Errorf("Check of a code with the bits %d and %d turned is true", bit, other)
			}
		}
		all = append(all, bit)
	}
	if Check(key, turned(code, all...), text) || Check(key, api.Hash{}, text) {
		t.Error("Check of a code that is wrong throughout is true")
	}
}

// P4.2: another key, another text, is not it.
func TestCheckOfOtherKeysAndTexts(t *testing.T) {
	key, text := anyBytes(8, 70), anyBytes(9, 70)
	code := Sum(key, text)
	for bit := range 8 * 70 {
		otherKey, otherText := bytes.Clone(key), bytes.Clone(text)
		otherKey[bit/8] ^= 1 << (bit % 8)
		otherText[bit/8] ^= 1 << (bit % 8)
		if Check(otherKey, code, text) || Check(key, code, otherText) {
			t.Errorf("Check is true with the bit %d turned", bit)
		}
	}
	for n := range 70 {
		if Check(key[:n], code, text) || Check(key, code, text[:n]) {
			t.Errorf("Check is true of %d bytes", n)
		}
	}
	if Check(key, code, text, []byte{0}) || Check(key, code, text, text) || Check(key, code) {
		t.Error("Check is true of more, or of none")
	}
}

// P4.1: a Mac that is asked between writes goes on as if it had not been.
func TestMacAskedBetweenWrites(t *testing.T) {
	whole := anyBytes(10, 200)
	for _, key := range [][]byte{nil, anyBytes(11, 32), anyBytes(12, 64), anyBytes(13, 65)} {
		for n := range len(whole) + 1 {
			m := New(key)
			writeAll(t, m, whole[:n])
			for range 3 {
				checkCode(t, "asked", m.Sum(), key, whole[:n])
			}
			writeAll(t, m, nil, []byte{})
			checkCode(t, "behind a write of nothing", m.Sum(), key, whole[:n])
			writeAll(t, m, whole[n:])
			checkCode(t, "written on", m.Sum(), key, whole)
		}
	}
}

// P4.7: two pieces, cut at every place, and pieces of single bytes.
func TestPieces(t *testing.T) {
	key, whole := anyBytes(14, 33), anyBytes(15, 150)
	for at := range len(whole) + 1 {
		checkCode(t, "two parts", Sum(key, whole[:at], whole[at:]), key, whole)
		m := New(key)
		writeAll(t, m, whole[:at], whole[at:])
		checkCode(t, "two writes", m.Sum(), key, whole)
	}
	var single [][]byte
	for i := range whole {
		single = append(single, whole[i:i+1])
	}
	checkCode(t, "single bytes as parts", Sum(key, single...), key, whole)
	m := New(key)
	writeAll(t, m, single...)
	checkCode(t, "single bytes written", m.Sum(), key, whole)
}

// P4.7: some Macs, two of them under one key, written to and asked in turns that are drawn.
func TestMacsInTurns(t *testing.T) {
	source := rand.New(rand.NewSource(16))
	for range 100 {
		var macs []*Mac
		texts := make([][]byte, 4)
		keys := [][]byte{anyBytes(17, 20), anyBytes(17, 20), anyBytes(18, 100), nil}
		for _, key := range keys {
			macs = append(macs, New(key))
		}
		for range 40 {
			at := source.Intn(len(macs))
			b := make([]byte, source.Intn(100))
			source.Read(b)
			writeAll(t, macs[at], b)
			texts[at] = append(texts[at], b...)
			asked := source.Intn(len(macs))
			checkCode(t, "in turns", macs[asked].Sum(), keys[asked], texts[asked])
		}
		for i, m := range macs {
			checkCode(t, "at the end", m.Sum(), keys[i], texts[i])
		}
	}
}

// P4.8: bytes 0 behind a key, up to 64 in all, change nothing; one more does.
func TestKeysWithBytesZeroBehindThem(t *testing.T) {
	text := anyBytes(19, 50)
	for n := range frameSize + 1 {
		key := anyBytes(20, n)
		code := Sum(key, text)
		for more := range frameSize - n + 1 {
			longer := append(bytes.Clone(key), make([]byte, more)...)
			if Sum(longer, text) != code || !Check(longer, code, text) {
				t.Errorf("a key of %d bytes with %d bytes 0 behind it gives another code", n, more)
			}
		}
		if Check(append(bytes.Clone(key), make([]byte, frameSize-n+1)...), code, text) {
			t.Errorf("a key of %d bytes gives the code of one of 65 bytes", n)
		}
	}
}

// P4.8: a key of more than 64 bytes gives the codes of its hash.
func TestKeysBeyondTheFrame(t *testing.T) {
	text := anyBytes(21, 50)
	for _, n := range []int{65, 66, 96, 127, 128, 129, 1000} {
		key := anyBytes(22, n)
		short := sha256.Sum256(key)
		if code := Sum(key, text); code != Sum(short[:], text) || !Check(short[:], code, text) {
			t.Errorf("a key of %d bytes gives another code than its hash", n)
		}
	}
	key := anyBytes(23, 64)
	short := sha256.Sum256(key)
	if Sum(key, text) == Sum(short[:], text) {
		t.Error("a key of 64 bytes gives the code of its hash")
	}
}

// P4.1, R1, R3: a nil Mac, and one that nobody made.
func TestNilMac(t *testing.T) {
	for what, m := range map[string]*Mac{"nil": nil, "not made": {}} {
		for _, b := range [][]byte{nil, {}, {1}, make([]byte, 100)} {
			n, err := m.Write(b)
			if n != 0 || err != error(api.ErrNil) || !errors.Is(err, api.ErrNil) {
				t.Errorf("%s: Write of %d bytes = %d, %v", what, len(b), n, err)
			}
		}
		if m != nil {
			m.Sum()
		} else if got := m.Sum(); got != (api.Hash{}) {
			t.Errorf("Sum = %x", got)
		}
	}
}

// R5: what is handed in stays as it is, with the room behind its end.
func TestMacArgumentsStay(t *testing.T) {
	whole := anyBytes(24, 400)
	before := bytes.Clone(whole)
	for n := range 150 {
		m := New(whole[:n])
		writeAll(t, m, whole[n:2*n])
		m.Sum()
		parts := [][]byte{whole[:n], whole[n : n+70], nil}
		Check(whole[:n], Sum(whole[:n], parts...), parts...)
		if !bytes.Equal(whole, before) {
			t.Fatalf("an argument of %d bytes has changed", n)
		}
		if len(parts[0]) != n || len(parts[1]) != 70 || parts[2] != nil {
			t.Fatal("the list of parts has changed")
		}
	}
}

// R5: neither a key nor a text is kept.
func TestMacArgumentsAreNotKept(t *testing.T) {
	for n := range 150 {
		key, text := anyBytes(25, n), anyBytes(26, n)
		m := New(key)
		clear(key)
		writeAll(t, m, text)
		clear(text)
		checkCode(t, "behind a change of what was handed in", m.Sum(), anyBytes(25, n), anyBytes(26, n))
	}
}
