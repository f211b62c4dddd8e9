package drop

import (
	"bytes"
	"crypto/ecdh"
	"crypto/hmac"
	"crypto/sha256"
	"encoding/binary"
	"encoding/hex"
	"math"
	"strings"
	"testing"

	"tryst/api"
	"tryst/ladder"
	"tryst/seal"
)

// What the document says, in plain words of its own; the hashes and the secrets are another library's.

func hmacOf(key []byte, parts ...[]byte) []byte {
	mac := hmac.New(sha256.New, key)
	mac.Write(join(parts...))
	return mac.Sum(nil)
}

func expandOf(root, info []byte, n int) []byte {
	var row, last []byte
	for i := byte(1); len(row) < n; i++ {
		last = hmacOf(root, last, info, []byte{i})
		row = append(row, last...)
	}
	return row[:n]
}

func le8(n uint64) []byte { return binary.LittleEndian.AppendUint64(nil, n) }

func join(parts ...[]byte) []byte { return bytes.Join(parts, nil) }

func curvesKey(t *testing.T, private api.Key) *ecdh.PrivateKey {
	t.Helper()
	key, err := ecdh.X25519().NewPrivateKey(private[:])
	if err != nil {
		t.Fatalf("the private key %x: %v", private, err)
	}
	return key
}

func publicOf(t *testing.T, private api.Key) api.Key {
	t.Helper()
	return api.Key(curvesKey(t, private).PublicKey().Bytes())
}

// secretOf is false for a weak one.
func secretOf(t *testing.T, own, other api.Key) ([]byte, bool) {
	t.Helper()
	public, err := ecdh.X25519().NewPublicKey(other[:])
	if err != nil {
		t.Fatalf("the public key %x: %v", other, err)
	}
	secret, err := curvesKey(t, own).ECDH(public)
	return secret, err == nil
}

func meetingOf(t *testing.T, own, other api.Key, round uint64) api.Meeting {
	t.Helper()
	secret, strong := secretOf(t, own, other)
	if !strong {
		t.Fatalf("%x is weak", other)
	}
	root, me := hmacOf([]byte("tryst drop"), secret), publicOf(t, own)
	return api.Meeting{
		Drop:   api.Drop(expandOf(root, join([]byte("drop"), le8(round)), 16)),
		Mine:   api.Key(expandOf(root, join([]byte("talk"), le8(round), me[:]), 32)),
		Theirs: api.Key(expandOf(root, join([]byte("talk"), le8(round), other[:]), 32)),
	}
}

// plainFor is the plain message of a text.
func plainFor(text []byte, size int) []byte {
	plain := make([]byte, size-16)
	plain[0], plain[1] = byte(len(text)%256), byte(len(text)/256)
	copy(plain[2:], text)
	return plain
}

// sealed seals any plain bytes as a message.
func sealed(t *testing.T, key api.Key, round uint64, plain []byte) []byte {
	t.Helper()
	return sealedAs(t, key, 3, round, nil, plain)
}

// sealedAs seals bytes as something of any kind, which vouches for more.
func sealedAs(t *testing.T, key api.Key, kind uint32, round uint64, more, plain []byte) []byte {
	t.Helper()
	nonce := api.Nonce(join(binary.LittleEndian.AppendUint32(nil, kind), le8(round)))
	box, err := seal.Seal(key, nonce, more, plain)
	if err != api.OK {
		t.Fatalf("seal.Seal of %d bytes: %d", len(plain), err)
	}
	return box
}

// rounds are the edges that the issue names, and some of which every byte is another one.
func rounds() []uint64 {
	return []uint64{0, 1, 2, 7, 255, 256, 1 << 31, 1<<32 - 1, 1 << 32, 1 << 63, math.MaxUint64 - 1, math.MaxUint64, 0x0807060504030201}
}

func wrongSizes() []int {
	return []int{31, 30, 18, 17, 16, 2, 1, 0, -1, -31, -32, -512, 513, 514, 1024, 32 + 1<<16, 32 + 1<<32, 512 - 1<<32, math.MinInt, math.MaxInt, math.MinInt + 32, math.MinInt + 17}
}

// textsFor are texts of the lengths that the chapter names, for which there is room: of bytes that are 0 everywhere, nowhere, at one end.
func textsFor(size int) [][]byte {
	room := size - 18
	texts := [][]byte{nil, {}, {0}, {1}, {255}, []byte("hello"), {0, 0, 0}, {1, 0}, {0, 1}}
	for _, k := range []int{room / 2, room - 1, room} {
		text := drawn(size+k, k)
		texts = append(texts, text, make([]byte, k), append(text[:k-1:k-1], 0))
	}
	if room >= 257 {
		texts = append(texts, drawn(3, 255), drawn(4, 256), drawn(5, 257))
	}
	return texts
}

// drawn are bytes of which no two pieces are alike, and none of which is 0.
func drawn(seed, n int) []byte {
	b := make([]byte, n)
	state := uint32(seed)*2654435761 + 12345
	for i := range b {
		state = state*1664525 + 1013904223
		b[i] = byte(state>>24) | 1
	}
	return b
}

func drawnKey(seed int) api.Key { return api.Key(drawn(seed, 32)) }

func drawnMeeting(seed int) api.Meeting {
	return api.Meeting{Drop: api.Drop(drawn(seed, 16)), Mine: drawnKey(seed + 1), Theirs: drawnKey(seed + 2)}
}

// unhex takes hexadecimal digits, between which there may be blanks.
func unhex(digits string) []byte {
	b, err := hex.DecodeString(strings.Join(strings.Fields(digits), ""))
	if err != nil {
		panic(err)
	}
	return b
}

func metBy(t *testing.T, own, other api.Key, round uint64) api.Meeting {
	t.Helper()
	m, err := Meet(own, other, round)
	if err != api.OK {
		t.Fatalf("Meet(%x, %x, %d): %d", own, other, round, err)
	}
	return m
}

// friends meet in a round: the one with the private key a, and the one with b.
func friends(t *testing.T, a, b api.Key, round uint64) (api.Meeting, api.Meeting) {
	t.Helper()
	return metBy(t, a, ladder.Base(b), round), metBy(t, b, ladder.Base(a), round)
}

func boxed(t *testing.T, m api.Meeting, round uint64, size int, text []byte) []byte {
	t.Helper()
	box, err := Box(m, round, size, text)
	if err != api.OK {
		t.Fatalf("Box of %d bytes in %d: %d", len(text), size, err)
	}
	return box
}

func checkBytes(t *testing.T, what string, got []byte, err api.Errno, want []byte) {
	t.Helper()
	if err != api.OK || !bytes.Equal(got, want) {
		t.Fatalf("%s = %x, %d, want %x", what, got, err, want)
	}
}

// checkRefused holds what is answered to an error and nothing else.
func checkRefused(t *testing.T, what string, got []byte, err, want api.Errno) {
	t.Helper()
	if err != want || len(got) > 0 {
		t.Fatalf("%s = %x, %d, want the error %d", what, got, err, want)
	}
}

func checkMeeting(t *testing.T, what string, got api.Meeting, err api.Errno, want api.Meeting) {
	t.Helper()
	if err != api.OK || got != want {
		t.Fatalf("%s = %x, %d, want %x", what, got, err, want)
	}
}
