package page

import (
	"bytes"
	"testing"

	"tryst/api"
)

// overwrite goes up to the end of the room that a list has.
func overwrite(b []byte) {
	b = b[:cap(b)]
	for i := range b {
		b[i] ^= 0x5a
	}
}

// R4: nil and an empty list are the same.
func TestNilIsEmpty(t *testing.T) {
	key, place := counted(1), at(1, 0, 5, 1)
	box := sealed(t, key, place, nil)
	for _, text := range [][]byte{{}, box[:0], make([]byte, 0, 50)} {
		checkBytes(t, "Seal", sealed(t, key, place, text), box)
	}
	checkOpens(t, key, place, box, nil)
	checkOpenRefused(t, "an empty list with room", key, place, box[:0])
	checkHeadRefused(t, box[:0])
}

// R5: what is handed in stays as it is, with the room behind its end, also if the answer is written over.
func TestListsStay(t *testing.T) {
	key, place := counted(1), at(1, 0, 5, 1)
	for _, n := range lengths {
		textRoom := drawn(21, n+50)
		boxRoom := join(wantedPage(key, place, textRoom[:n]), drawn(22, 50))
		textBefore, boxBefore := bytes.Clone(textRoom), bytes.Clone(boxRoom)
		for _, end := range []int{n + 28, n + 29, n + 27, 12, 0} {
			box, _ := Seal(key, place, textRoom[:n])
			text, _ := Open(key, place, boxRoom[:end])
			other, _ := Open(key, api.Place{}, boxRoom[:end])
			Head(boxRoom[:end])
			overwrite(box)
			overwrite(text)
			overwrite(other)
			checkBytes(t, "the text that was handed in", textRoom, textBefore)
			checkBytes(t, "the box that was handed in", boxRoom, boxBefore)
		}
	}
	long := drawn(23, 5000)
	checkSealRefused(t, place, long)
	checkBytes(t, "a text that was too long", long, drawn(23, 5000))
}

// R5: no answer hangs on what becomes of the lists that were handed in, or of another answer.
func TestAnswersAreTheirOwn(t *testing.T) {
	key, place := counted(1), at(1, 0, 5, 1)
	for _, n := range lengths {
		given := drawn(24, n)
		first, second := sealed(t, key, place, given), sealed(t, key, place, given)
		overwrite(given)
		overwrite(first)
		checkBytes(t, "the other page", second, wantedPage(key, place, drawn(24, n)))

		one, oneErr := Open(key, place, second)
		other, otherErr := Open(key, place, second)
		if oneErr != api.OK || otherErr != api.OK {
			t.Fatalf("Open twice: %d, %d", oneErr, otherErr)
		}
		overwrite(second)
		overwrite(one)
		checkBytes(t, "the other text", other, drawn(24, n))
	}
}

// R6: what failed leaves nothing behind.
func TestWrongPagesLeaveNothing(t *testing.T) {
	key, place := counted(1), at(1, 0, 5, 1)
	box := sealed(t, key, place, drawn(25, 100))
	for range 3 {
		checkOpenRefused(t, "another version", key, at(1, 0, 5, 2), box)
		checkOpenRefused(t, "cut", key, place, box[:127])
		checkSealRefused(t, place, make([]byte, 4097))
		checkOpens(t, key, place, box, drawn(25, 100))
		checkHead(t, box, 1, 0)
	}
}
