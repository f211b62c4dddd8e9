package onion

import (
	"bytes"
	"crypto/ecdh"
	"crypto/hkdf"
	"crypto/sha256"
	"math"
	"math/rand"
	"slices"
	"testing"

	"tryst/api"
	"tryst/seal"
)

var rounds = []uint64{0, 1, 7, 255, 256, 1 << 32, 1<<63 + 5, math.MaxUint64}

func drawn(seed int64, n int) []byte {
	b := make([]byte, n)
	rand.New(rand.NewSource(seed)).Read(b)
	return b
}

func drawnKeys(seed int64, n int) []api.Key {
	keys := make([]api.Key, n)
	for i := range keys {
		keys[i] = api.Key(drawn(1000*seed+int64(i), 32))
	}
	return keys
}

// someKeys are of bytes 00, of bytes ff, of one bit, and drawn ones.
func someKeys() []api.Key {
	return append(drawnKeys(1, 3), api.Key{}, api.Key(bytes.Repeat([]byte{0xff}, 32)), api.Key{1}, api.Key{31: 0x80})
}

// weakOnes are the public keys of which every secret is weak: 0, 1, p - 1, p, p + 1, the two of chapter 9, and all of them with the highest bit set.
func weakOnes() []api.Key {
	full := "ffffffffffffffffffffffffffffffffffffffffffffffffffffffffffff7f"
	keys := []api.Key{
		{}, {1}, api.Key(unhex("ec" + full)), api.Key(unhex("ed" + full)), api.Key(unhex("ee" + full)),
		api.Key(unhex("e0eb7a7c 3b41b8ae 1656e3fa f19fc46a da098deb 9c32b1fd 86620516 5f49b800")),
		api.Key(unhex("5f9c95bc a3508c24 b1d0b155 9c83ef5b 04445cc4 581c8e86 d8224edd d09f1157")),
	}
	for _, k := range keys {
		k[31] |= 0x80
		keys = append(keys, k)
	}
	return keys
}

func libraryPrivate(k api.Key) *ecdh.PrivateKey {
	private, err := ecdh.X25519().NewPrivateKey(k[:])
	if err != nil {
		panic(err)
	}
	return private
}

// publicOf is what the library has for a public key.
func publicOf(k api.Key) api.Key { return api.Key(libraryPrivate(k).PublicKey().Bytes()) }

func publicsOf(keys []api.Key) []api.Key {
	out := make([]api.Key, len(keys))
	for i, k := range keys {
		out[i] = publicOf(k)
	}
	return out
}

// secretOf is the library's, which refuses weak ones.
func secretOf(own, other api.Key) api.Key {
	public, err := ecdh.X25519().NewPublicKey(other[:])
	if err != nil {
		panic(err)
	}
	secret, err := libraryPrivate(own).ECDH(public)
	if err != nil {
		return api.Key{}
	}
	return api.Key(secret)
}

// littleEight goes by the document's words: the lowest byte first.
func littleEight(n uint64) []byte {
	b := []byte{}
	for range 8 {
		b = append(b, byte(n%256))
		n /= 256
	}
	return b
}

// keysOf is Schedule as the library has it.
func keysOf(secret, first, server api.Key, round uint64) (api.Key, api.Key) {
	info := string(first[:]) + string(server[:]) + string(littleEight(round))
	row, err := hkdf.Key(sha256.New, secret[:], []byte("tryst onion"), info, 64)
	if err != nil {
		panic(err)
	}
	return api.Key(row[:32]), api.Key(row[32:])
}

func nonceOf(kind byte, round uint64) api.Nonce {
	return api.Nonce(append([]byte{kind, 0, 0, 0}, littleEight(round)...))
}

// layerOf is a layer under any secret, a weak one too, with the key of its reply.
func layerOf(secret, first, server api.Key, round uint64, within []byte) ([]byte, api.Key) {
	request, reply := keysOf(secret, first, server, round)
	box, err := seal.Seal(request, nonceOf(0, round), nil, within)
	if err != api.OK {
		panic(err)
	}
	return append(bytes.Clone(first[:]), box...), reply
}

// wantedWrap goes by the chapter's words, from the last server to the first one.
func wantedWrap(servers, privates []api.Key, round uint64, inner []byte) ([]byte, []api.Key) {
	within, replies := inner, make([]api.Key, len(servers))
	for i := len(servers) - 1; i >= 0; i-- {
		secret := secretOf(privates[i], servers[i])
		within, replies[i] = layerOf(secret, publicOf(privates[i]), servers[i], round, within)
	}
	return within, replies
}

func checkWrap(t *testing.T, servers, privates []api.Key, round uint64, inner []byte) {
	t.Helper()
	box, replies := wrapped(t, servers, privates, round, inner)
	want, keys := wantedWrap(servers, privates, round, inner)
	checkBytes(t, "Wrap", box, want)
	if !slices.Equal(replies, keys) {
		t.Fatalf("the keys of Wrap = %x, want %x", replies, keys)
	}
}

// P10.1: any keys in all three places, in any round.
func TestSchedule(t *testing.T) {
	for _, round := range rounds {
		for i, secret := range someKeys() {
			for j, first := range someKeys() {
				server := someKeys()[(i+2*j)%7]
				request, reply := Schedule(secret, first, server, round)
				one, other := keysOf(secret, first, server, round)
				checkKey(t, "the first key", request, one)
				checkKey(t, "the second key", reply, other)
			}
		}
	}
}

// P10.1: every bit of all that is handed in counts.
func TestScheduleBits(t *testing.T) {
	keys, seen := drawnKeys(2, 3), map[[2]api.Key]int{}
	see := func(round uint64) {
		t.Helper()
		request, reply := Schedule(keys[0], keys[1], keys[2], round)
		if seen[[2]api.Key{request, reply}]++; seen[[2]api.Key{request, reply}] > 1 || request == reply {
			t.Fatal("keys that were told of something else")
		}
	}
	see(7)
	for bit := range 256 {
		for i := range keys {
			keys[i][bit/8] ^= 1 << (bit % 8)
			see(7)
			keys[i][bit/8] ^= 1 << (bit % 8)
		}
	}
	for bit := range 64 {
		see(7 ^ 1<<bit)
	}
}

// P10.2, P10.9: one server to eight, inner of no bytes and of several lengths, in any round.
func TestWrap(t *testing.T) {
	owns, privates := drawnKeys(3, 8), drawnKeys(4, 8)
	servers := publicsOf(owns)
	for n := 1; n <= len(servers); n++ {
		for i, size := range []int{0, 1, 16, 48, 92, 300} {
			checkWrap(t, servers[:n], privates[:n], rounds[(n+i)%len(rounds)], drawn(5, size))
		}
	}
}

// P10.2: keys at the edges; the same server, and the same private key, more than once; servers' keys that are no public key of anybody.
func TestWrapOfAnyKeys(t *testing.T) {
	keys := someKeys()
	for i, own := range keys {
		for _, private := range keys {
			server := publicOf(own)
			checkWrap(t, []api.Key{server}, []api.Key{private}, rounds[i], []byte("inner"))
			checkWrap(t, []api.Key{server, server}, []api.Key{private, private}, rounds[i], []byte("inner"))
			server[31] |= 0x80
			checkWrap(t, []api.Key{server, {2}}, []api.Key{private, own}, rounds[i], []byte("inner"))
		}
	}
}

// P10.2: no servers, too many, and not as many private keys.
func TestWrapForWrongServers(t *testing.T) {
	privates := drawnKeys(6, 20)
	servers := publicsOf(drawnKeys(7, 20))
	for n := range servers {
		for m := range privates {
			if n < 1 || n > 8 || n != m {
				checkWrapRefused(t, servers[:n], privates[:m], []byte("inner"), api.ErrServers)
			}
		}
	}
	checkWrapRefused(t, []api.Key{}, []api.Key{}, nil, api.ErrServers)
}

// P10.2, P10.9: just as many bytes as MaxBytes leaves room for, and one more.
func TestWrapAtTheLimit(t *testing.T) {
	privates, long := drawnKeys(8, 8), drawn(9, 2*api.MaxBytes)
	servers := publicsOf(drawnKeys(10, 8))
	for _, n := range []int{1, 2, 8} {
		most := api.MaxBytes - 48*n
		box, _ := wrapped(t, servers[:n], privates[:n], 7, long[:most])
		want, _ := wantedWrap(servers[:n], privates[:n], 7, long[:most])
		checkBytes(t, "Wrap", box, want)
		if len(box) != api.MaxBytes {
			t.Errorf("the onion has %d bytes", len(box))
		}
		for _, size := range []int{most + 1, most + 16, most + 48, api.MaxBytes, api.MaxBytes + 1, len(long)} {
			checkWrapRefused(t, servers[:n], privates[:n], long[:size], api.ErrLong)
		}
	}
}

// P10.2: a weak key among good ones: as the first, the last, in the middle; all of them.
func TestWrapForWeakServers(t *testing.T) {
	for _, weak := range weakOnes() {
		for _, private := range someKeys() {
			checkWrapRefused(t, []api.Key{weak}, []api.Key{private}, []byte("inner"), api.ErrWeak)
		}
		for _, n := range []int{2, 3, 8} {
			for at := range n {
				servers := publicsOf(drawnKeys(11, n))
				servers[at] = weak
				checkWrapRefused(t, servers, drawnKeys(12, n), []byte("inner"), api.ErrWeak)
			}
		}
		checkWrapRefused(t, slices.Repeat([]api.Key{weak}, 8), drawnKeys(13, 8), nil, api.ErrWeak)
	}
}

// P10.2, R2: of several errors the first one.
func TestWrapTellsTheFirstError(t *testing.T) {
	long, weak := make([]byte, api.MaxBytes+1), make([]api.Key, 10)
	for _, c := range []struct {
		servers, privates int
		inner             []byte
		err               api.Errno
	}{
		{0, 0, long, api.ErrServers}, {0, 1, long, api.ErrServers}, {9, 9, long, api.ErrServers}, {9, 9, nil, api.ErrServers},
		{1, 0, long, api.ErrServers}, {1, 2, long, api.ErrServers}, {8, 7, long, api.ErrServers}, {2, 1, nil, api.ErrServers},
		{1, 1, long, api.ErrLong}, {1, 1, long[:api.MaxBytes-47], api.ErrLong}, {8, 8, long[:api.MaxBytes-383], api.ErrLong},
		{1, 1, long[:api.MaxBytes-48], api.ErrWeak}, {8, 8, long[:api.MaxBytes-384], api.ErrWeak}, {8, 8, nil, api.ErrWeak},
	} {
		checkWrapRefused(t, weak[:c.servers], weak[:c.privates], c.inner, c.err)
	}
}

// R4: nil and empty are the same.
func TestWrapOfNothing(t *testing.T) {
	privates := drawnKeys(14, 2)
	servers := publicsOf(drawnKeys(15, 2))
	want, _ := wantedWrap(servers, privates, 7, nil)
	for _, inner := range [][]byte{nil, {}, drawn(16, 5)[:0]} {
		box, _ := wrapped(t, servers, privates, 7, inner)
		checkBytes(t, "Wrap of nothing", box, want)
	}
}

// overwrite goes up to the end of the room that an answer has.
func overwrite(b []byte) {
	b = b[:cap(b)]
	for i := range b {
		b[i] ^= 0x5a
	}
}

// R5: what is handed in stays as it is, with the room behind its end, also if the answers are written over; an answer hangs on nothing that is done behind the call.
func TestWrapKeepsToItself(t *testing.T) {
	for _, size := range []int{0, 1, 100} {
		servers, privates, room := publicsOf(drawnKeys(17, 8)), drawnKeys(18, 8), drawn(19, size+500)
		want, keys := wantedWrap(servers[:3], privates[:3], 7, room[:size])
		box, replies := wrapped(t, servers[:3], privates[:3], 7, room[:size])
		again, too := wrapped(t, servers[:3], privates[:3], 7, room[:size])
		overwrite(box)
		clear(replies[:cap(replies)])
		checkWrapRefused(t, servers[:3], privates[:2], room[:size], api.ErrServers)
		checkBytes(t, "inner", room, drawn(19, size+500))
		if !slices.Equal(servers, publicsOf(drawnKeys(17, 8))) || !slices.Equal(privates, drawnKeys(18, 8)) {
			t.Fatal("the keys that were handed in have changed")
		}
		overwrite(room)
		clear(servers)
		clear(privates)
		checkBytes(t, "the other answer", again, want)
		if !slices.Equal(too, keys) {
			t.Fatal("the other answer's keys have changed")
		}
	}
}

// R5: one list may be handed in for two.
func TestWrapOfOneListForTwo(t *testing.T) {
	list := drawnKeys(20, 4)
	before := slices.Clone(list)
	checkWrap(t, list, list, 7, list[0][:])
	if !slices.Equal(list, before) {
		t.Fatal("the list has changed")
	}
}
