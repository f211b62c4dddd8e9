package onion

import (
	"bytes"
	"slices"
	"testing"

	"tryst/api"
	"tryst/seal"
)

var replySizes = []int{0, 1, 15, 16, 17, 33, 64, 65, 129, 513}

// wantedAnswer goes by the chapter's words.
func wantedAnswer(t *testing.T, reply api.Key, round uint64, text []byte) []byte {
	t.Helper()
	box, err := seal.Seal(reply, nonceOf(1, round), nil, text)
	if err != api.OK {
		t.Fatal(err)
	}
	return box
}

// sealedBy is a text that is sealed under all keys, the last one's first.
func sealedBy(t *testing.T, replies []api.Key, round uint64, text []byte) []byte {
	t.Helper()
	for _, reply := range slices.Backward(replies) {
		text = wantedAnswer(t, reply, round, text)
	}
	return text
}

func checkUnwrap(t *testing.T, replies []api.Key, round uint64, box, want []byte) {
	t.Helper()
	text, err := Unwrap(replies, round, box)
	if err != api.OK {
		t.Fatalf("Unwrap under %d keys of %d bytes: %d", len(replies), len(box), err)
	}
	checkBytes(t, "Unwrap", text, want)
}

// P10.5, P10.9: all lengths, under any keys, in any round.
func TestAnswer(t *testing.T) {
	for _, reply := range someKeys() {
		for i, size := range replySizes {
			round, text := rounds[i%len(rounds)], drawn(41, size)
			box := answered(t, reply, round, text)
			checkBytes(t, "Answer", box, wantedAnswer(t, reply, round, text))
			if len(box) != size+16 {
				t.Fatalf("the reply of %d bytes has %d", size, len(box))
			}
		}
	}
	checkBytes(t, "Answer of nil", answered(t, api.Key{}, 7, nil), answered(t, api.Key{}, 7, []byte{}))
}

// P10.5: MaxBytes bytes, one more, and far more.
func TestAnswerAtTheLimit(t *testing.T) {
	long := drawn(42, 2*api.MaxBytes)
	checkBytes(t, "Answer", answered(t, counted(1), 7, long[:api.MaxBytes]), wantedAnswer(t, counted(1), 7, long[:api.MaxBytes]))
	for _, size := range []int{api.MaxBytes + 1, api.MaxBytes + 16, len(long)} {
		if box, err := Answer(counted(1), 7, long[:size]); err != api.ErrLong || len(box) != 0 {
			t.Errorf("Answer of %d bytes = %d bytes, %d", size, len(box), err)
		}
	}
}

// P10.6: one key to eight, in any round.
func TestUnwrap(t *testing.T) {
	replies := append(drawnKeys(43, 6), api.Key{}, api.Key(bytes.Repeat([]byte{0xff}, 32)))
	for n := 1; n <= len(replies); n++ {
		for i, size := range replySizes {
			round, text := rounds[(n+i)%len(rounds)], drawn(44, size)
			checkUnwrap(t, replies[:n], round, sealedBy(t, replies[:n], round, text), text)
		}
	}
}

// P10.6: a box of the most bytes that may be.
func TestUnwrapAtTheLimit(t *testing.T) {
	replies, long := drawnKeys(45, 8), drawn(46, api.MaxBytes)
	checkUnwrap(t, replies[:1], 7, sealedBy(t, replies[:1], 7, long), long)
	text := long[:api.MaxBytes-112]
	checkUnwrap(t, replies, 7, sealedBy(t, replies, 7, text), text)
}

// P10.6, R2: no keys, or too many, ahead of all that may be wrong with the box.
func TestUnwrapByWrongServers(t *testing.T) {
	replies, long := drawnKeys(47, 20), make([]byte, api.MaxBytes+17)
	for _, n := range []int{0, 9, 10, 20} {
		for _, box := range [][]byte{nil, long[:15], long[:16], long[:500], long, sealedBy(t, replies[:n], 7, []byte("hi"))} {
			checkUnwrapRefused(t, "wrong servers", replies[:n], 7, box, api.ErrServers)
		}
	}
	checkUnwrapRefused(t, "no servers", []api.Key{}, 7, make([]byte, 16), api.ErrServers)
}

// P10.6: boxes that fail at the first key, in all of its ways.
func TestUnwrapFailsAtTheFirstKey(t *testing.T) {
	replies, long := drawnKeys(48, 8), make([]byte, 2*api.MaxBytes)
	for n := 1; n <= 8; n++ {
		for size := range 16 {
			checkUnwrapRefused(t, "a short box", replies[:n], 7, long[:size], api.ErrLength)
		}
		for _, size := range []int{api.MaxBytes + 17, len(long)} {
			checkUnwrapRefused(t, "a long box", replies[:n], 7, long[:size], api.ErrLong)
		}
		for _, size := range []int{16, 17, 200, api.MaxBytes + 16} {
			checkUnwrapRefused(t, "any bytes", replies[:n], 7, long[:size], api.ErrTag)
		}
		box := sealedBy(t, replies[:n], 7, []byte("hi"))
		checkUnwrapRefused(t, "another round", replies[:n], 8, box, api.ErrTag)
		for bit := range 8 * len(box) {
			box[bit/8] ^= 1 << (bit % 8)
			checkUnwrapRefused(t, "a bit turned", replies[:n], 7, box, api.ErrTag)
			box[bit/8] ^= 1 << (bit % 8)
		}
	}
}

// P10.6: boxes that fail at a later key, each one in turn: their tag is wrong, or too few bytes are left.
func TestUnwrapFailsAtALaterKey(t *testing.T) {
	replies := drawnKeys(49, 8)
	for at := 1; at < len(replies); at++ {
		within := sealedBy(t, replies[at:], 7, []byte("hi"))
		within[at] ^= 0x10
		checkUnwrapRefused(t, "a bit turned", replies, 7, sealedBy(t, replies[:at], 7, within), api.ErrTag)
		for size := range 16 {
			checkUnwrapRefused(t, "too few bytes", replies, 7, sealedBy(t, replies[:at], 7, drawn(50, size)), api.ErrLength)
		}
		checkUnwrapRefused(t, "any bytes", replies, 7, sealedBy(t, replies[:at], 7, drawn(51, 16)), api.ErrTag)
		checkUnwrapRefused(t, "another round", replies, 7, sealedBy(t, replies[:at], 7, sealedBy(t, replies[at:], 8, []byte("hi"))), api.ErrTag)
	}
}

// P10.6: the keys in another order, too few of them, one left out.
func TestUnwrapUnderOtherKeys(t *testing.T) {
	replies, text := drawnKeys(52, 4), []byte("hi")
	box := sealedBy(t, replies, 7, text)
	for i := range replies {
		for j := range i {
			other := slices.Clone(replies)
			other[i], other[j] = other[j], other[i]
			checkUnwrapRefused(t, "another order", other, 7, box, api.ErrTag)
		}
		if i < 3 {
			checkUnwrapRefused(t, "one left out", slices.Delete(slices.Clone(replies), i, i+1), 7, box, api.ErrTag)
		}
	}
	checkUnwrap(t, replies[:3], 7, box, sealedBy(t, replies[3:], 7, text))
	checkUnwrapRefused(t, "one more", append(replies, counted(1)), 7, box, api.ErrLength)
}

// P10.6: what is sealed as a request, or with something vouched for, is no reply.
func TestUnwrapOfNoReply(t *testing.T) {
	key := counted(1)
	for kind, more := range [][]byte{nil, []byte("more"), nil, nil} {
		box, err := seal.Seal(key, nonceOf(byte(kind), 7), more, []byte("hi"))
		if err != api.OK {
			t.Fatal(err)
		}
		checkUnwrapRefused(t, "no reply", []api.Key{key}, 7, box, api.ErrTag)
	}
}

// R5: what is handed in stays as it is, with the room behind its end; answers share nothing with it, nor with one another.
func TestRepliesKeepToThemselves(t *testing.T) {
	replies := drawnKeys(53, 8)
	for _, size := range replySizes {
		room := drawn(54, size+100)
		box, again := answered(t, replies[0], 7, room[:size]), answered(t, replies[0], 7, room[:size])
		overwrite(box)
		checkBytes(t, "the text", room, drawn(54, size+100))
		overwrite(room)
		checkBytes(t, "the other answer", again, wantedAnswer(t, replies[0], 7, drawn(54, size)))

		text := drawn(55, size)
		room = append(sealedBy(t, replies[:3], 7, text), drawn(56, 60)...)
		before, sealed := bytes.Clone(room), room[:size+48]
		one, _ := Unwrap(replies[:3], 7, sealed)
		other, _ := Unwrap(replies[:3], 7, sealed)
		overwrite(one)
		checkUnwrapRefused(t, "another order", []api.Key{replies[1], replies[0]}, 7, sealed, api.ErrTag)
		checkBytes(t, "the box", room, before)
		overwrite(room)
		checkBytes(t, "the other answer", other, text)
		if !slices.Equal(replies, drawnKeys(53, 8)) {
			t.Fatal("the keys have changed")
		}
	}
}

// thereAndBack sends inner through the servers with the private keys owns, and a text back from the last one.
func thereAndBack(t *testing.T, owns, privates []api.Key, round uint64, inner, text []byte) {
	t.Helper()
	box, replies := wrapped(t, publicsOf(owns), privates, round, inner)
	if len(box) != len(inner)+48*len(owns) {
		t.Fatalf("the onion has %d bytes", len(box))
	}
	for i, own := range owns {
		peeled := peeledBy(t, own, round, box)
		if peeled.Valid != yes || len(peeled.Inner) != len(box)-48 {
			t.Fatalf("server %d of %d: Valid = %#x, %d bytes", i, len(owns), peeled.Valid, len(peeled.Inner))
		}
		checkKey(t, "the key of the reply", peeled.Reply, replies[i])
		box = peeled.Inner
	}
	checkBytes(t, "the last inner", box, inner)

	back := text
	for i := range owns {
		back = answered(t, replies[len(owns)-1-i], round, back)
		if len(back) != len(text)+16*(i+1) {
			t.Fatalf("the reply has %d bytes", len(back))
		}
	}
	checkUnwrap(t, replies, round, back, text)
}

// P10.7, P10.8, P10.9, W6: chains of one server to eight, in any round, of inner of all lengths.
func TestThereAndBack(t *testing.T) {
	owns, privates := drawnKeys(57, 8), drawnKeys(58, 8)
	for n := 1; n <= 8; n++ {
		for i, size := range replySizes {
			thereAndBack(t, owns[:n], privates[:n], rounds[(n+i)%len(rounds)], drawn(59, size), drawn(60, size/2))
		}
	}
	long := drawn(61, api.MaxBytes)
	thereAndBack(t, owns, privates, 7, long[:api.MaxBytes-48*8], long[:api.MaxBytes-112])
	thereAndBack(t, owns[:1], privates[:1], 7, long[:api.MaxBytes-48], long)
}

// P10.7, P10.8: any keys; one server, or one drawn key, at all places.
func TestThereAndBackOfAnyKeys(t *testing.T) {
	keys := someKeys()
	thereAndBack(t, keys, keys, 7, []byte("inner"), []byte("text"))
	for i, own := range keys {
		thereAndBack(t, slices.Repeat([]api.Key{own}, 3), keys[:3], rounds[i], []byte("inner"), []byte("text"))
		thereAndBack(t, keys[:3], slices.Repeat([]api.Key{own}, 3), rounds[i], []byte("inner"), []byte("text"))
	}
}

// P10.7: what one server spoils the next one finds not valid, and the replies' keys of the others stay as they were told.
func TestAServerSpoils(t *testing.T) {
	owns := drawnKeys(62, 3)
	box, replies := wrapped(t, publicsOf(owns), drawnKeys(63, 3), 7, []byte("inner"))
	box = peeledBy(t, owns[0], 7, box).Inner
	box[40] ^= 1
	second := peeledBy(t, owns[1], 7, box)
	checkPeeled(t, "the second server", second, api.Peeled{Inner: make([]byte, 53), Reply: replies[1]})
	checkNotValid(t, "the third server", owns[2], 7, second.Inner)
}
