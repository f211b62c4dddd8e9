package onion

import (
	"bytes"
	"testing"

	"tryst/api"
	"tryst/seal"
)

// wantedPeel goes by the chapter's words.
func wantedPeel(own api.Key, round uint64, box []byte) api.Peeled {
	first := api.Key(box[:32])
	secret := secretOf(own, first)
	request, reply := keysOf(secret, first, publicOf(own), round)
	text, err := seal.Open(request, nonceOf(0, round), nil, box[32:])
	if secret == (api.Key{}) || err != api.OK {
		return api.Peeled{Inner: make([]byte, len(box)-48), Reply: reply}
	}
	return api.Peeled{Inner: text, Reply: reply, Valid: yes}
}

// checkNotValid holds Peel to the chapter's words, and these to say that the box is not valid.
func checkNotValid(t *testing.T, what string, own api.Key, round uint64, box []byte) {
	t.Helper()
	peeled := peeledBy(t, own, round, box)
	checkPeeled(t, what, peeled, wantedPeel(own, round, box))
	if peeled.Valid != 0 || !bytes.Equal(peeled.Inner, make([]byte, len(box)-48)) {
		t.Fatalf("%s: Valid = %#x, Inner = %x", what, peeled.Valid, peeled.Inner)
	}
}

// sent is an onion for the one server with that private key.
func sent(own, private api.Key, round uint64, inner []byte) ([]byte, api.Key) {
	box, replies := wantedWrap([]api.Key{publicOf(own)}, []api.Key{private}, round, inner)
	return box, replies[0]
}

// P10.3: boxes that are valid, of 48 bytes, of 49 and of more, under any keys, in any round.
func TestPeel(t *testing.T) {
	for i, own := range someKeys() {
		for j, private := range someKeys() {
			for _, size := range []int{0, 1, 15, 16, 17, 63, 64, 65, 200} {
				round, inner := rounds[(i+j)%len(rounds)], drawn(21, size)
				box, reply := sent(own, private, round, inner)
				checkPeeled(t, "Peel", peeledBy(t, own, round, box), api.Peeled{Inner: inner, Reply: reply, Valid: yes})
			}
		}
	}
}

// P10.3: any bytes have a key, and are not valid.
func TestPeelOfAnyBytes(t *testing.T) {
	for i, own := range someKeys() {
		for _, size := range []int{48, 49, 50, 63, 64, 65, 100, 500} {
			checkNotValid(t, "drawn bytes", own, rounds[i], drawn(int64(22+size), size))
			checkNotValid(t, "bytes 00", own, rounds[i], make([]byte, size))
			checkNotValid(t, "bytes ff", own, rounds[i], bytes.Repeat([]byte{0xff}, size))
		}
	}
}

// P10.3: each one bit turned, in the first 32 bytes and behind them.
func TestPeelOfTurnedBits(t *testing.T) {
	own := drawnKeys(23, 1)[0]
	for _, inner := range []string{"", "hello"} {
		box, _ := sent(own, counted(3), 7, []byte(inner))
		for bit := range 8 * len(box) {
			box[bit/8] ^= 1 << (bit % 8)
			checkNotValid(t, "a bit turned", own, 7, box)
			box[bit/8] ^= 1 << (bit % 8)
		}
	}
}

// P10.3: another round, another key; bytes left out, and laid on.
func TestPeelOfWhatWasSentOtherwise(t *testing.T) {
	own := drawnKeys(24, 1)[0]
	box, reply := sent(own, counted(3), 7, []byte("hello"))
	for bit := range 64 {
		checkNotValid(t, "another round", own, 7^1<<bit, box)
	}
	for _, other := range someKeys() {
		checkNotValid(t, "another key", other, 7, box)
	}
	for n := 1; len(box)-n >= 48; n++ {
		checkNotValid(t, "left out behind", own, 7, box[:len(box)-n])
		checkNotValid(t, "left out ahead", own, 7, box[n:])
	}
	for n := 1; n < 40; n++ {
		checkNotValid(t, "laid on behind", own, 7, append(bytes.Clone(box), make([]byte, n)...))
		checkNotValid(t, "laid on ahead", own, 7, append(make([]byte, n), box...))
	}
	clamped := own
	clamped[0] ^= 7
	clamped[31] ^= 0x80
	checkPeeled(t, "under what is clamped alike", peeledBy(t, clamped, 7, box), api.Peeled{Inner: []byte("hello"), Reply: reply, Valid: yes})
}

// P10.3: a box that is sealed under the key or with the nonce of the reply is not valid.
func TestPeelOfAReply(t *testing.T) {
	own, first := counted(1), publicOf(counted(3))
	request, reply := keysOf(secretOf(own, first), first, publicOf(own), 7)
	for _, c := range []struct {
		key  api.Key
		kind byte
	}{{reply, 0}, {reply, 1}, {request, 1}, {request, 2}} {
		box, err := seal.Seal(c.key, nonceOf(c.kind, 7), nil, []byte("hello"))
		if err != api.OK {
			t.Fatal(err)
		}
		checkNotValid(t, "another key or kind", own, 7, append(bytes.Clone(first[:]), box...))
	}
	box, _ := seal.Seal(request, nonceOf(0, 7), first[:], []byte("hello"))
	checkNotValid(t, "something vouched for", own, 7, append(bytes.Clone(first[:]), box...))
}

// P10.3: the drawn public key counts as it stands, also one with the highest bit set, or beyond the prime.
func TestPeelOfOtherFirstBytes(t *testing.T) {
	own := counted(1)
	high := publicOf(counted(3))
	high[31] |= 0x80
	beyond := api.Key(unhex("f6ffffffffffffffffffffffffffffffffffffffffffffffffffffffffffff7f")) // p + 9
	for _, first := range []api.Key{high, beyond, {2}, {9}} {
		box, reply := layerOf(secretOf(own, first), first, publicOf(own), 7, []byte("hello"))
		checkPeeled(t, "Peel", peeledBy(t, own, 7, box), api.Peeled{Inner: []byte("hello"), Reply: reply, Valid: yes})
	}
}

// P10.3: what opens under a weak secret is not valid; it has a key all the same.
func TestPeelOfWeakBoxes(t *testing.T) {
	for _, own := range someKeys() {
		for _, weak := range weakOnes() {
			for _, inner := range []string{"", "a", "something that opens"} {
				box, reply := layerOf(api.Key{}, weak, publicOf(own), 7, []byte(inner))
				checkNotValid(t, "a weak box", own, 7, box)
				checkKey(t, "its key", peeledBy(t, own, 7, box).Reply, reply)
			}
		}
	}
}

// P10.3: too few bytes, too many, and the most that may be.
func TestPeelOfWrongLengths(t *testing.T) {
	own, long := counted(1), drawn(25, 2*api.MaxBytes)
	box, _ := sent(own, counted(3), 7, []byte("hello"))
	for n := range 48 {
		checkPeelRefused(t, own, box[:n], api.ErrLength)
		checkPeelRefused(t, own, make([]byte, n), api.ErrLength)
	}
	checkPeelRefused(t, own, nil, api.ErrLength)

	inner := long[:api.MaxBytes-48]
	box, reply := sent(own, counted(3), 7, inner)
	checkPeeled(t, "Peel at the limit", peeledBy(t, own, 7, box), api.Peeled{Inner: inner, Reply: reply, Valid: yes})
	checkNotValid(t, "drawn bytes at the limit", own, 7, long[:api.MaxBytes])

	for _, size := range []int{api.MaxBytes - 47, api.MaxBytes - 32, api.MaxBytes} {
		box, _ = sent(own, counted(3), 7, long[:size]) // it would open
		checkPeelRefused(t, own, box, api.ErrLong)
	}
	checkPeelRefused(t, own, long, api.ErrLong)
}

// R5: the box stays as it is, with the room behind its end; an answer shares nothing with it, nor with another one.
func TestPeelKeepsToItself(t *testing.T) {
	own := counted(1)
	for _, inner := range []string{"", "hello", "a longer text, of more than one block of the stream: of sixty-four bytes and more"} {
		box, reply := sent(own, counted(3), 7, []byte(inner))
		room := append(bytes.Clone(box), drawn(26, 100)...)
		before := bytes.Clone(room)
		one, other := peeledBy(t, own, 7, room[:len(box)]), peeledBy(t, own, 7, room[:len(box)])
		wrong := peeledBy(t, own, 8, room[:len(box)])
		overwrite(one.Inner)
		checkBytes(t, "what was handed in", room, before)
		overwrite(room)
		checkPeeled(t, "the other answer", other, api.Peeled{Inner: []byte(inner), Reply: reply, Valid: yes})
		checkBytes(t, "what is within of a wrong one", wrong.Inner, make([]byte, len(inner)))
	}
}
