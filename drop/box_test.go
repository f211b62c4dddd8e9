package drop

import (
	"math"
	"testing"

	"tryst/api"
)

// P21.2
func TestRoom(t *testing.T) {
	for size := -600; size <= 1200; size++ {
		want := 0
		if size >= 32 && size <= 512 {
			want = size - 18
		}
		if room := Room(size); room != want {
			t.Fatalf("Room(%d) = %d, want %d", size, room, want)
		}
	}
	for _, size := range wrongSizes() {
		if room := Room(size); room != 0 {
			t.Fatalf("Room(%d) = %d", size, room)
		}
	}
}

// P21.3
func TestBox(t *testing.T) {
	m := drawnMeeting(1)
	for _, size := range []int{32, 33, 34, 63, 64, 100, 273, 274, 275, 511, 512} {
		for _, text := range textsFor(size) {
			box, err := Box(m, 7, size, text)
			checkBytes(t, "Box", box, err, sealed(t, m.Mine, 7, plainFor(text, size)))
		}
	}
	for _, round := range rounds() {
		box, err := Box(m, round, 40, []byte("hello"))
		checkBytes(t, "Box", box, err, sealed(t, m.Mine, round, plainFor([]byte("hello"), 40)))
	}
}

// P21.3: of a meeting nothing counts but the key for what one says oneself.
func TestBoxIsUnderMine(t *testing.T) {
	m := drawnMeeting(1)
	box := boxed(t, m, 7, 40, []byte("hello"))
	other := drawnMeeting(20)
	other.Mine = m.Mine
	checkBytes(t, "Box", boxed(t, other, 7, 40, []byte("hello")), api.OK, box)
	checkBytes(t, "Box of no meeting", boxed(t, api.Meeting{}, 7, 40, []byte("hello")), api.OK,
		sealed(t, api.Key{}, 7, plainFor([]byte("hello"), 40)))
}

// P21.3
func TestBoxLong(t *testing.T) {
	m, long := drawnMeeting(1), make([]byte, 1<<17)
	for size := 32; size <= 512; size++ {
		for _, length := range []int{size - 17, size - 16, size - 15, size, size + 256, 600, 1<<16 + 1} {
			box, err := Box(m, 7, size, long[:length])
			checkRefused(t, "Box of what is too long", box, err, api.ErrLong)
		}
	}
}

// P21.3: a wrong size is told ahead of a text for which there is no room.
func TestBoxOfAWrongSize(t *testing.T) {
	m := drawnMeeting(1)
	for _, size := range wrongSizes() {
		for _, text := range [][]byte{nil, {}, {1}, make([]byte, 14), make([]byte, 15), make([]byte, 494), make([]byte, 495), make([]byte, 1<<20)} {
			box, err := Box(m, 7, size, text)
			checkRefused(t, "Box of a wrong size", box, err, api.ErrLength)
		}
	}
}

// P21.7: all boxes of one size are of one length.
func TestBoxesAreOfOneLength(t *testing.T) {
	m := drawnMeeting(1)
	for size := 32; size <= 512; size++ {
		for _, text := range [][]byte{nil, {0}, {255}, make([]byte, size-18), drawn(1, size-18)} {
			if box := boxed(t, m, math.MaxUint64, size, text); len(box) != size {
				t.Fatalf("Box of %d bytes in %d = %d bytes", len(text), size, len(box))
			}
		}
	}
}
