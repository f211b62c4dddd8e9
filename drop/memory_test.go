package drop

import (
	"bytes"
	"testing"

	"tryst/api"
)

const roomBehind = 200

// withRoom has room behind its end, in which 99 stands.
func withRoom(b []byte) []byte {
	return append(bytes.Clone(b), bytes.Repeat([]byte{99}, roomBehind)...)[:len(b)]
}

func checkRoom(t *testing.T, what string, b, want []byte) {
	t.Helper()
	behind := b[len(b) : len(b)+roomBehind]
	if !bytes.Equal(b, want) || !bytes.Equal(behind, bytes.Repeat([]byte{99}, roomBehind)) {
		t.Fatalf("%s was changed: %x, %x", what, b, behind)
	}
}

// overwrite goes up to the end of the room that a list has.
func overwrite(b []byte) {
	b = b[:cap(b)]
	for i := range b {
		b[i] ^= 0x5a
	}
}

// checkOwn makes something of a list twice: neither answer shares anything with the list, or with the other one, and the list stays as it is.
func checkOwn(t *testing.T, what string, list []byte, make func(list []byte) ([]byte, api.Errno)) {
	t.Helper()
	want, err := make(bytes.Clone(list))
	if err != api.OK {
		t.Fatalf("%s: %d", what, err)
	}
	want = bytes.Clone(want)
	given := withRoom(list)
	first, err := make(given)
	checkBytes(t, what, first, err, want)
	second, err := make(given)
	checkBytes(t, what+" once more", second, err, want)
	checkRoom(t, "what was handed to "+what, given, list)
	overwrite(first)
	checkRoom(t, "what was handed to "+what, given, list)
	checkBytes(t, what+", the first answer overwritten", second, api.OK, want)
	overwrite(given)
	checkBytes(t, what+", all else overwritten", second, api.OK, want)
}

// R5
func TestWhatIsAnsweredIsItsOwn(t *testing.T) {
	m := drawnMeeting(1)
	for _, size := range []int{32, 33, 100, 512} {
		for _, text := range textsFor(size) {
			checkOwn(t, "Box", text, func(list []byte) ([]byte, api.Errno) { return Box(m, 7, size, list) })
			box := sealed(t, m.Theirs, 7, plainFor(text, size))
			checkOwn(t, "Unbox", box, func(list []byte) ([]byte, api.Errno) { return Unbox(m, 7, list) })
		}
		checkOwn(t, "Idle", nil, func([]byte) ([]byte, api.Errno) {
			_, message, err := Idle(drawnKey(1), 7, size)
			return message, err
		})
	}
}

// R5: what is refused stays as it is, too.
func TestWhatIsRefusedStays(t *testing.T) {
	m := drawnMeeting(1)
	for _, length := range []int{0, 15, 31, 32, 100, 495, 512, 513, 600} {
		list := drawn(1, length)
		given := withRoom(list)
		for _, size := range []int{31, 32, 513} {
			if box, err := Box(m, 7, size, given); err == api.OK && length > 14 {
				t.Fatalf("Box of %d bytes in %d = %x", length, size, box)
			}
		}
		if text, err := Unbox(m, 7, given); err == api.OK {
			t.Fatalf("Unbox of %x = %x", list, text)
		}
		checkRoom(t, "what was refused", given, list)
	}
	bad := sealed(t, m.Theirs, 7, join([]byte{0, 0, 1}, make([]byte, 13)))
	given := withRoom(bad)
	text, err := Unbox(m, 7, given)
	checkRefused(t, "Unbox of what is no text's", text, err, api.ErrMessage)
	checkRoom(t, "what was refused", given, bad)
}

// R6: what was answered stands, whatever is asked behind it.
func TestAnswersStand(t *testing.T) {
	m, n := friends(t, drawnKey(1), drawnKey(2), 7)
	kept := m
	box := boxed(t, m, 7, 100, []byte("hello"))
	text, _ := Unbox(n, 7, box)
	drop, message, _ := Idle(drawnKey(3), 7, 100)
	before := bytes.Clone(message)
	for round := range uint64(20) {
		o, _ := friends(t, drawnKey(4), drawnKey(5), round)
		other := boxed(t, o, round, 100, []byte("other"))
		Unbox(n, round, other)
		Idle(drawnKey(6), round, 100)
	}
	checkMeeting(t, "the meeting", m, api.OK, kept)
	checkBytes(t, "the box", box, api.OK, boxed(t, m, 7, 100, []byte("hello")))
	checkBytes(t, "the text", text, api.OK, []byte("hello"))
	checkBytes(t, "the message of nobody", message, api.OK, before)
	if again, _, _ := Idle(drawnKey(3), 7, 100); again != drop {
		t.Errorf("Idle's dead drop = %x, and %x", drop, again)
	}
}

// The chapter's ways: what was a secret is wiped, all of it, in every list.
func TestWipe(t *testing.T) {
	lists := [][]byte{drawn(1, 1), drawn(2, 32), {}, nil, drawn(3, 500)}
	wipe(lists...)
	for _, b := range lists {
		checkBytes(t, "what was wiped", b, api.OK, make([]byte, len(b)))
	}
	wipe()
}
