package drop

import (
	"bytes"
	"testing"

	"tryst/api"
	"tryst/ladder"
)

// The chapter's table of examples, row by row.

func TestExamplesOfMeet(t *testing.T) {
	a, b := api.Key{1, 2, 3}, api.Key{4, 5, 6}
	if m, err := Meet(a, api.Key{}, 7); err != api.ErrWeak || m != (api.Meeting{}) {
		t.Errorf("Meet with a key of zeros = %x, %d", m, err)
	}
	m, n := friends(t, a, b, 7)
	if m.Drop != n.Drop || m.Mine != n.Theirs || m.Theirs != n.Mine {
		t.Errorf("Meet = %x and %x", m, n)
	}
	if m := metBy(t, a, ladder.Base(a), 7); m.Mine != m.Theirs {
		t.Errorf("Meet with oneself = %x", m)
	}
}

func TestExamplesOfRoom(t *testing.T) {
	for _, c := range [][2]int{{32, 14}, {512, 494}, {31, 0}, {513, 0}, {-1, 0}} {
		if room := Room(c[0]); room != c[1] {
			t.Errorf("Room(%d) = %d, want %d", c[0], room, c[1])
		}
	}
}

func TestExamplesOfBox(t *testing.T) {
	m, n := friends(t, api.Key{1, 2, 3}, api.Key{4, 5, 6}, 7)
	x := boxed(t, m, 7, 32, []byte("hello"))
	if len(x) != 32 {
		t.Errorf("Box = %d bytes", len(x))
	}
	text, err := Unbox(n, 7, x)
	checkBytes(t, "Unbox by the friend", text, err, []byte("hello"))
	text, err = Unbox(m, 7, x)
	checkRefused(t, "Unbox by oneself", text, err, api.ErrTag)
	text, err = Unbox(n, 8, x)
	checkRefused(t, "Unbox in another round", text, err, api.ErrTag)

	box, err := Box(m, 7, 32, make([]byte, 15))
	checkRefused(t, "Box of 15 bytes in 32", box, err, api.ErrLong)
	if box := boxed(t, m, 7, 32, make([]byte, 14)); len(box) != 32 {
		t.Errorf("Box of 14 bytes in 32 = %d bytes", len(box))
	}
	box, err = Box(m, 7, 31, nil)
	checkRefused(t, "Box of nothing in 31", box, err, api.ErrLength)
}

func TestExamplesOfUnbox(t *testing.T) {
	m, n := friends(t, api.Key{1, 2, 3}, api.Key{4, 5, 6}, 7)
	for _, c := range []struct {
		length int
		err    api.Errno
	}{{31, api.ErrLength}, {513, api.ErrLength}, {32, api.ErrTag}} {
		text, err := Unbox(n, 7, make([]byte, c.length))
		checkRefused(t, "Unbox of zeros", text, err, c.err)
	}
	for _, plain := range [][]byte{join([]byte{15, 0}, drawn(1, 14)), join([]byte{0, 0, 1}, make([]byte, 13))} {
		text, err := Unbox(n, 7, sealed(t, m.Mine, 7, plain))
		checkRefused(t, "Unbox of what is no text's", text, err, api.ErrMessage)
	}
}

func TestExamplesOfIdle(t *testing.T) {
	seed := api.Key{3}
	drop, message, err := Idle(seed, 7, 32)
	if err != api.OK || drop == (api.Drop{}) || len(message) != 32 {
		t.Errorf("Idle = %x, %x, %d", drop, message, err)
	}
	other, another, err := Idle(seed, 8, 32)
	if err != api.OK || other == drop || len(another) != 32 || bytes.Equal(another, message) {
		t.Errorf("Idle in another round = %x, %x, %d", other, another, err)
	}
	drop, message, err = Idle(seed, 7, 31)
	if err != api.ErrLength || drop != (api.Drop{}) || len(message) != 0 {
		t.Errorf("Idle of 31 bytes = %x, %x, %d", drop, message, err)
	}
}

// counted are 32 bytes, each one above the one ahead of it.
func counted(from byte) (k api.Key) {
	for i := range k {
		k[i] = from + byte(i)
	}
	return k
}

// P21.1, P21.3, P21.5: bytes that another program made, by another library, as the document's words say.
func TestBytesOfAnotherProgram(t *testing.T) {
	const round = 0x0807060504030201
	b := ladder.Base(counted(0x40))
	m := metBy(t, counted(0x10), b, round)
	checkMeeting(t, "Meet", m, api.OK, api.Meeting{
		Drop:   api.Drop(unhex("f1b892c1a06097e518191e1e4d26826b")),
		Mine:   api.Key(unhex("9793c471947619da655e1001624765a73391de89c2540bcccb7731686466d053")),
		Theirs: api.Key(unhex("43a69e285922fe07bb40a1052f83d7f43e1f77fb69bd38de9ec58e80e30dea6a")),
	})
	b[31] |= 0x80
	high := m
	high.Theirs = api.Key(unhex("b7978a8d73c93018ad19e523d49696ef1e86bc1f1b0b5da330d647cd86d5a542"))
	checkMeeting(t, "Meet, the highest bit set", metBy(t, counted(0x10), b, round), api.OK, high)

	text := []byte("hello, friend")
	checkBytes(t, "Box in 32", boxed(t, m, round, 32, text), api.OK,
		unhex("aea3d597dfc1d73f301fb3338204874f01095adb32c9362b440ec4cf99371a31"))
	checkBytes(t, "Box in 40", boxed(t, m, round, 40, text), api.OK,
		unhex("aea3d597dfc1d73f301fb3338204874f904697543f8cfadcfbded3f7c9b2f8478b135e1313d0ab8b"))

	drop, message, err := Idle(counted(0x70), round, 70)
	checkBytes(t, "Idle's dead drop", drop[:], err, unhex("25b6cbaf01d2b1c85a4428ae0d970fa7"))
	checkBytes(t, "Idle's message", message, err, unhex(`
		b3ea99a4f243b249b815552cd51b0d5ce4ee8d25f437fda80d5fe24e09daf00b39e104e443346f75e7dbb7806b09990011a24593a794
		9110823a2718df8a01eb27e69594912f`))
}
