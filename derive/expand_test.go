package derive

import (
	"bytes"
	"crypto/hkdf"
	"crypto/sha256"
	"math"
	"testing"

	"tryst/api"
)

// libraryRow is what the library says of Expand.
func libraryRow(t *testing.T, prk, info []byte, n int) []byte {
	t.Helper()
	row, err := hkdf.Expand(sha256.New, prk, string(info), n)
	if err != nil {
		t.Fatal(err)
	}
	return row
}

func expandOf(t *testing.T, prk api.Hash, info []byte, n int) []byte {
	t.Helper()
	row, err := Expand(prk, info, n)
	if err != api.OK || len(row) != n {
		t.Fatalf("Expand of %d = %d bytes, %d", n, len(row), err)
	}
	return row
}

func keysOf(t *testing.T, salt, secret, info []byte, n int) []api.Key {
	t.Helper()
	keys, err := Keys(salt, secret, info, n)
	if err != api.OK || len(keys) != n {
		t.Fatalf("Keys of %d = %d keys, %d", n, len(keys), err)
	}
	return keys
}

// numbersOfBytes stand about all multiples of 32, from 0 to what may be.
func numbersOfBytes() []int {
	numbers := []int{0, 1, 16}
	for n := 32; n < api.MaxExpand; n += 32 {
		numbers = append(numbers, n-1, n, n+1)
	}
	return append(numbers, api.MaxExpand-1, api.MaxExpand)
}

// P4.3: salts and secrets of all lengths, none among them.
func TestExtract(t *testing.T) {
	salts, secrets := anyBytes(30, 130), anyBytes(31, 130)
	for n := range len(salts) + 1 {
		for _, size := range []int{0, 1, 31, 32, 33, 64, 65, 130} {
			checkCode(t, "Extract", Extract(salts[:n], secrets[:size]), salts[:n], secrets[:size])
		}
	}
	if Extract(nil, nil) != Extract([]byte{}, []byte{}) {
		t.Error("Extract tells nil from empty")
	}
	if a, b := []byte("a"), []byte("b"); Extract(a, b) == Extract(b, a) {
		t.Error("Extract takes the secret for the salt")
	}
}

// P4.4: all numbers of bytes about the ends of rows of 32, up to 8160.
func TestExpandOfAllNumbers(t *testing.T) {
	prk, info := api.Hash(anyBytes(32, 32)), anyBytes(33, 20)
	want := libraryRow(t, prk[:], info, api.MaxExpand)
	for _, n := range numbersOfBytes() {
		if row := expandOf(t, prk, info, n); !bytes.Equal(row, want[:n]) {
			t.Errorf("Expand of %d is not what the library says", n)
		}
	}
}

// P4.4: infos of all lengths, and several keys, the zero one among them.
func TestExpandOfAllInfos(t *testing.T) {
	infos := anyBytes(34, 200)
	for _, prk := range []api.Hash{{}, {31: 1}, api.Hash(anyBytes(35, 32)), api.Hash(bytes.Repeat([]byte{255}, 32))} {
		for n := range len(infos) + 1 {
			if row := expandOf(t, prk, infos[:n], 100); !bytes.Equal(row, libraryRow(t, prk[:], infos[:n], 100)) {
				t.Errorf("Expand with an info of %d bytes is not what the library says", n)
			}
		}
		if !bytes.Equal(expandOf(t, prk, nil, 40), expandOf(t, prk, []byte{}, 40)) {
			t.Error("Expand tells nil from empty")
		}
	}
}

// P4.4: each row hangs on the one ahead of it, on the info and on its number, as the chapter writes it.
func TestExpandRowByRow(t *testing.T) {
	prk, info := api.Hash(anyBytes(36, 32)), []byte("info")
	row := expandOf(t, prk, info, api.MaxExpand)
	var last []byte
	for i := 1; i <= 255; i++ {
		code := libraryCode(prk[:], append(append(bytes.Clone(last), info...), byte(i)))
		if last = row[32*(i-1) : 32*i]; !bytes.Equal(last, code[:]) {
			t.Fatalf("row %d = %x, want %x", i, last, code)
		}
	}
}

// P4.4, P4.5, R2: numbers that may not be give no bytes.
func TestExpandOfWrongNumbers(t *testing.T) {
	for _, c := range []struct {
		n   int
		err api.Errno
	}{
		{-1, api.ErrArg}, {-32, api.ErrArg}, {math.MinInt, api.ErrArg},
		{8161, api.ErrLong}, {8192, api.ErrLong}, {1 << 32, api.ErrLong}, {math.MaxInt, api.ErrLong},
	} {
		if row, err := Expand(api.Hash{1}, []byte("info"), c.n); len(row) != 0 || err != c.err {
			t.Errorf("Expand of %d = %d bytes, %d, want %d", c.n, len(row), err, c.err)
		}
		if row, err := Derive([]byte("salt"), nil, nil, c.n); len(row) != 0 || err != c.err {
			t.Errorf("Derive of %d = %d bytes, %d, want %d", c.n, len(row), err, c.err)
		}
	}
}

// P4.5: what the library says of both steps in one.
func TestDerive(t *testing.T) {
	whole := anyBytes(37, 300)
	for _, c := range []struct{ salt, secret, info []byte }{
		{nil, nil, nil}, {whole[:13], whole[13:45], whole[45:60]}, {whole[:64], whole[:65], nil},
		{whole[:65], nil, whole[:1]}, {nil, whole, whole}, {whole, whole[:1], whole[:200]},
	} {
		for _, n := range []int{0, 1, 31, 32, 33, 42, 64, 8159, 8160} {
			want, err := hkdf.Key(sha256.New, c.secret, c.salt, string(c.info), n)
			if err != nil {
				t.Fatal(err)
			}
			row, errno := Derive(c.salt, c.secret, c.info, n)
			if errno != api.OK || !bytes.Equal(row, want) {
				t.Errorf("Derive of %d = %x, %d, want %x", n, row, errno, want)
			}
		}
	}
}

// P4.6: all numbers of keys that may be.
func TestKeysOfAllNumbers(t *testing.T) {
	salt, secret, info := anyBytes(38, 11), anyBytes(39, 32), anyBytes(40, 72)
	want, err := hkdf.Key(sha256.New, secret, salt, string(info), api.MaxExpand)
	if err != nil {
		t.Fatal(err)
	}
	for n := range 256 {
		for i, key := range keysOf(t, salt, secret, info, n) {
			if !bytes.Equal(key[:], want[32*i:32*i+32]) {
				t.Fatalf("of %d keys the one at %d = %x", n, i, key)
			}
		}
	}
}

// P4.6, R2: numbers that may not be, those among them of which 32 times as many wraps round.
func TestKeysOfWrongNumbers(t *testing.T) {
	for _, c := range []struct {
		n   int
		err api.Errno
	}{
		{-1, api.ErrArg}, {-256, api.ErrArg}, {math.MinInt, api.ErrArg}, {math.MinInt + 1, api.ErrArg},
		{256, api.ErrLong}, {8160, api.ErrLong}, {math.MaxInt, api.ErrLong},
		{math.MaxInt/16 + 1, api.ErrLong}, {math.MaxInt/16 + 2, api.ErrLong}, {math.MaxInt/32 + 1, api.ErrLong},
	} {
		if keys, err := Keys([]byte("salt"), []byte("secret"), nil, c.n); len(keys) != 0 || err != c.err {
			t.Errorf("Keys of %d = %d keys, %d, want %d", c.n, len(keys), err, c.err)
		}
	}
}

// P4.9
func TestBeginnings(t *testing.T) {
	prk, info := api.Hash(anyBytes(41, 32)), anyBytes(42, 40)
	whole := expandOf(t, prk, info, 300)
	for n := range len(whole) {
		if !bytes.HasPrefix(whole, expandOf(t, prk, info, n)) {
			t.Errorf("Expand of %d is not the beginning of Expand of %d", n, len(whole))
		}
	}
	keys := keysOf(t, prk[:], info, nil, 20)
	for n := range keys {
		for i, key := range keysOf(t, prk[:], info, nil, n) {
			if key != keys[i] {
				t.Errorf("of %d keys the one at %d is not that of %d keys", n, i, len(keys))
			}
		}
	}
}

// R5: what is handed in stays as it is, with the room behind its end.
func TestExpandArgumentsStay(t *testing.T) {
	whole := anyBytes(43, 400)
	before := bytes.Clone(whole)
	for n := range 100 {
		salt, secret, info := whole[:n], whole[100:100+n], whole[200:200+n]
		Expand(Extract(salt, secret), info, n)
		Derive(salt, secret, info, 33)
		Keys(salt, secret, info, 3)
		if !bytes.Equal(whole, before) {
			t.Fatalf("an argument of %d bytes has changed", n)
		}
	}
}

// R5, R6: every answer is new memory, and a change to one changes no later one.
func TestExpandAnswersAreNew(t *testing.T) {
	prk, info := api.Hash(anyBytes(44, 32)), anyBytes(45, 32)
	want := libraryRow(t, prk[:], info, 96)
	for range 3 {
		row, other := expandOf(t, prk, info, 96), expandOf(t, prk, info, 96)
		clear(row)
		if !bytes.Equal(other, want) {
			t.Fatal("two answers of Expand share memory")
		}
		keys, more := keysOf(t, prk[:], info, nil, 3), keysOf(t, prk[:], info, nil, 3)
		clear(keys)
		if more[0] == (api.Key{}) {
			t.Fatal("two answers of Keys share memory")
		}
	}
}
