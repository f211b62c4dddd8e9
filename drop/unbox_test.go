package drop

import (
	"bytes"
	"testing"

	"tryst/api"
)

// textIn holds the chapter's words to a plain message: its text, if it is a text's.
func textIn(plain []byte) ([]byte, bool) {
	for k := range len(plain) - 2 + 1 {
		if text := plain[2 : 2+k]; bytes.Equal(plainFor(text, len(plain)+16), plain) {
			return text, true
		}
	}
	return nil, false
}

// checkPlain seals plain bytes, has them unboxed, and holds what is answered to the words; with a text it holds the box to what Box makes of it.
func checkPlain(t *testing.T, m api.Meeting, plain []byte) api.Errno {
	t.Helper()
	box := sealed(t, m.Theirs, 7, plain)
	text, err := Unbox(m, 7, box)
	want, is := textIn(plain)
	if !is {
		checkRefused(t, "Unbox of what is no text's", text, err, api.ErrMessage)
		return err
	}
	checkBytes(t, "Unbox", text, err, want)
	again, err := Box(api.Meeting{Mine: m.Theirs}, 7, len(box), text)
	checkBytes(t, "Box of what was unboxed", again, err, box)
	return err
}

// P21.4, P21.7: the lengths that are there, with rests of all kinds.
func TestUnboxOfAllLengthsThatStandThere(t *testing.T) {
	m := drawnMeeting(1)
	zeros, full := make([]byte, 14), drawn(1, 14)
	for k := range 1 << 16 {
		if k > 300 && k%251 != 0 && k%256 > 16 {
			continue
		}
		for _, rest := range [][]byte{zeros, full, join(full[:3], zeros[:11]), join(zeros[:13], []byte{1})} {
			checkPlain(t, m, join([]byte{byte(k), byte(k >> 8)}, rest))
		}
	}
}

// P21.4: a length above the room is none, whatever stands there.
func TestUnboxOfALengthAboveTheRoom(t *testing.T) {
	m := drawnMeeting(1)
	for _, size := range []int{32, 33, 272, 273, 274, 275, 511, 512} {
		room := size - 18
		for k, want := range map[int]api.Errno{
			0: api.OK, 1: api.OK, room - 1: api.OK, room: api.OK,
			room + 1: api.ErrMessage, room + 2: api.ErrMessage, room + 3: api.ErrMessage, room + 256: api.ErrMessage,
			size: api.ErrMessage, 1 << 15: api.ErrMessage, 1<<16 - 1: api.ErrMessage,
		} {
			for _, rest := range [][]byte{make([]byte, room), join(drawn(2, min(k, room)), make([]byte, room-min(k, room)))} {
				if err := checkPlain(t, m, join([]byte{byte(k), byte(k >> 8)}, rest)); err != want {
					t.Fatalf("%d bytes in %d: %d, want %d", k, size, err, want)
				}
			}
		}
	}
}

// P21.4: a byte that is not 0 behind the text, at each place, of each bit.
func TestUnboxOfARestThatIsNotZero(t *testing.T) {
	m := drawnMeeting(1)
	for _, size := range []int{32, 33, 100, 512} {
		room := size - 18
		for _, k := range []int{0, 1, room / 2, room - 2, room - 1} {
			for at := k; at < room; at++ {
				plain := plainFor(drawn(3, k), size)
				plain[2+at] = 1 << (at % 8)
				text, err := Unbox(m, 7, sealed(t, m.Theirs, 7, plain))
				checkRefused(t, "Unbox of a rest that is not zero", text, err, api.ErrMessage)
			}
		}
	}
}

// P21.4: bytes of the rest that make up for one another.
func TestUnboxOfARestThatMakesUp(t *testing.T) {
	m := drawnMeeting(1)
	for _, pair := range [][2]byte{{5, 5}, {128, 128}, {255, 1}, {1, 255}, {0x0f, 0xf0}, {1, 2}} {
		plain := plainFor([]byte("hello"), 32)
		plain[9], plain[12] = pair[0], pair[1]
		if err := checkPlain(t, m, plain); err != api.ErrMessage {
			t.Fatalf("%x: %d", pair, err)
		}
	}
}

// P21.4, P21.6: of what the other one boxed just the text comes back.
func TestUnbox(t *testing.T) {
	m := drawnMeeting(1)
	for _, size := range []int{32, 33, 64, 274, 275, 511, 512} {
		for _, text := range textsFor(size) {
			if err := checkPlain(t, m, plainFor(text, size)); err != api.OK {
				t.Fatalf("Unbox of %d bytes in %d: %d", len(text), size, err)
			}
		}
	}
	for _, round := range rounds() {
		text, err := Unbox(m, round, sealed(t, m.Theirs, round, plainFor([]byte("hello"), 40)))
		checkBytes(t, "Unbox", text, err, []byte("hello"))
	}
}

// P21.4: lengths that no message has are told ahead of all else, also if the tag is right.
func TestUnboxOfAWrongLength(t *testing.T) {
	m := drawnMeeting(1)
	for _, length := range []int{0, 1, 2, 15, 16, 17, 18, 30, 31, 513, 514, 600, 1024, 1<<16 + 32, 1 << 20} {
		text, err := Unbox(m, 7, make([]byte, length))
		checkRefused(t, "Unbox of zeros", text, err, api.ErrLength)
		if length >= 18 {
			text, err = Unbox(m, 7, sealed(t, m.Theirs, 7, plainFor(nil, length)))
			checkRefused(t, "Unbox of what is sealed", text, err, api.ErrLength)
		}
	}
	text, err := Unbox(m, 7, nil)
	checkRefused(t, "Unbox of nil", text, err, api.ErrLength)
}

// P21.4
func TestUnboxOfWhatWasTurned(t *testing.T) {
	m := drawnMeeting(1)
	for _, size := range []int{32, 33, 100, 512} {
		box := sealed(t, m.Theirs, 7, plainFor([]byte("hello"), size))
		for at := range box {
			for _, by := range []byte{1, 1 << (at % 8), 255} {
				turned := bytes.Clone(box)
				turned[at] ^= by
				text, err := Unbox(m, 7, turned)
				checkRefused(t, "Unbox of what was turned", text, err, api.ErrTag)
			}
		}
	}
	for _, size := range []int{32, 33, 511, 512} {
		text, err := Unbox(m, 7, make([]byte, size))
		checkRefused(t, "Unbox of zeros", text, err, api.ErrTag)
	}
}

// P21.4: of another round, under the other one's key, under a key that is like theirs but for one bit, cut, or longer.
func TestUnboxOfAnotherBox(t *testing.T) {
	m := drawnMeeting(1)
	plain := plainFor([]byte("hello"), 40)
	refused := func(what string, box []byte) {
		text, err := Unbox(m, 7, box)
		checkRefused(t, what, text, err, api.ErrTag)
	}
	for _, round := range rounds() {
		if round != 7 {
			refused("of another round", sealed(t, m.Theirs, round, plain))
		}
	}
	for bit := range 64 {
		refused("of another round", sealed(t, m.Theirs, 7^1<<bit, plain))
	}
	refused("of one's own", sealed(t, m.Mine, 7, plain))
	for bit := range 256 {
		key := m.Theirs
		key[bit/8] ^= 1 << (bit % 8)
		refused("under another key", sealed(t, key, 7, plain))
	}
	box := sealed(t, m.Theirs, 7, plain)
	refused("cut", box[:39])
	refused("longer", append(bytes.Clone(box), 0))
}

// P21.4: boxes of another kind, or that vouch for more, are no messages.
func TestUnboxOfAnotherKind(t *testing.T) {
	m := drawnMeeting(1)
	plain := plainFor([]byte("hello"), 40)
	for _, c := range []struct {
		kind uint32
		more []byte
		want api.Errno
	}{{3, nil, api.OK}, {0, nil, api.ErrTag}, {1, nil, api.ErrTag}, {2, nil, api.ErrTag}, {4, nil, api.ErrTag}, {3 << 24, nil, api.ErrTag}, {3, []byte{0}, api.ErrTag}, {3, le8(7), api.ErrTag}} {
		if text, err := Unbox(m, 7, sealedAs(t, m.Theirs, c.kind, 7, c.more, plain)); err != c.want || (err == api.OK) != (len(text) == 5) {
			t.Errorf("of the kind %d with more %x: %x, %d, want %d", c.kind, c.more, text, err, c.want)
		}
	}
}

// P21.4: a tag that is wrong is told ahead of what is no text's.
func TestUnboxTellsTheTagFirst(t *testing.T) {
	m := drawnMeeting(1)
	for _, plain := range [][]byte{join([]byte{255, 255}, make([]byte, 14)), join([]byte{0, 0, 1}, make([]byte, 13))} {
		box := sealed(t, m.Theirs, 7, plain)
		text, err := Unbox(m, 7, box)
		checkRefused(t, "Unbox", text, err, api.ErrMessage)
		box[31] ^= 1
		text, err = Unbox(m, 7, box)
		checkRefused(t, "Unbox with a wrong tag", text, err, api.ErrTag)
		text, err = Unbox(m, 8, sealed(t, m.Theirs, 7, plain))
		checkRefused(t, "Unbox in another round", text, err, api.ErrTag)
	}
}

// P21.4: of a meeting nothing counts but the key for what the other one says.
func TestUnboxIsUnderTheirs(t *testing.T) {
	m := drawnMeeting(1)
	box := sealed(t, m.Theirs, 7, plainFor([]byte("hello"), 40))
	other := drawnMeeting(20)
	other.Theirs = m.Theirs
	text, err := Unbox(other, 7, box)
	checkBytes(t, "Unbox", text, err, []byte("hello"))
	other.Theirs, other.Mine = other.Mine, m.Theirs
	text, err = Unbox(other, 7, box)
	checkRefused(t, "Unbox under Mine", text, err, api.ErrTag)
}
