package stream

import (
	"bytes"
	"math"
	"math/rand"
	"testing"

	"tryst/api"
)

const lastPlace = 1 << 38

var (
	someKey   = api.Key{0: 7, 9: 200, 18: 3, 31: 255}
	someNonce = api.Nonce{0: 1, 5: 99, 11: 128}
)

// lengths end about the ends of blocks.
var lengths = []int{0, 1, 2, 31, 32, 62, 63, 64, 65, 66, 127, 128, 129, 191, 192, 193, 1000}

// keyBytes are bytes of the key stream of someKey and someNonce, block by block as the chapter makes them.
func keyBytes(from uint64, n int) []byte {
	var row []byte
	for counter := from / 64; len(row) < n+int(from%64); counter++ {
		block := wantedBlock(someKey, uint32(counter), someNonce)
		row = append(row, block[:]...)
	}
	return row[from%64:][:n]
}

// against is b, bit against bit of the key stream from a place on.
func against(b []byte, from uint64) []byte {
	out := keyBytes(from, len(b))
	for i := range out {
		out[i] = out[i]&^b[i] | b[i]&^out[i]
	}
	return out
}

func drawnText(seed int64, n int) []byte {
	text := make([]byte, n)
	rand.New(rand.NewSource(seed)).Read(text)
	return text
}

// streamAt stands at any place, behind a skip within its block.
func streamAt(t *testing.T, place uint64) *Stream {
	t.Helper()
	if place == lastPlace {
		s := New(someKey, someNonce, math.MaxUint32)
		checkSkip(t, s, 64, api.OK)
		return s
	}
	s := New(someKey, someNonce, uint32(place/64))
	checkSkip(t, s, int(place%64), api.OK)
	return s
}

// checkLaid holds Xor of b to P5.4, where the stream stands.
func checkLaid(t *testing.T, s *Stream, b []byte) {
	t.Helper()
	from := s.At()
	out, err := s.Xor(b)
	if err != api.OK {
		t.Fatalf("Xor of %d bytes at %d: %d", len(b), from, err)
	}
	if !bytes.Equal(out, against(b, from)) {
		t.Fatalf("Xor of %d bytes at %d = %x, want %x", len(b), from, out, against(b, from))
	}
	checkAt(t, s, from+uint64(len(b)))
}

// checkGoesOn tells that a stream stands where it stood, with its key and its nonce.
func checkGoesOn(t *testing.T, s *Stream, place uint64) {
	t.Helper()
	checkAt(t, s, place)
	checkLaid(t, s, make([]byte, min(100, lastPlace-place)))
}

// P5.3: counters at their ends, and where 64 times as many no longer have room in a word.
func TestNewStandsAtItsCounter(t *testing.T) {
	for _, counter := range []uint32{0, 1, 2, 7, 1<<26 - 1, 1 << 26, 1<<31 - 1, 1 << 31, math.MaxUint32 - 1, math.MaxUint32} {
		s := New(someKey, someNonce, counter)
		checkGoesOn(t, s, 64*uint64(counter))
	}
}

// P5.4, P5.6: the text of RFC 8439, 2.4.2.
func TestTextOfTheStandard(t *testing.T) {
	const text = "Ladies and Gentlemen of the class of '99: If I could offer you only one tip for the future, sunscreen would be it."
	const want = `
		6e2e359a2568f98041ba0728dd0d6981 e97e7aec1d4360c20a27afccfd9fae0b
		f91b65c5524733ab8f593dabcd62b357 1639d624e65152ab8f530c359f0861d8
		07ca0dbf500d6a6156a38e088a22b65e 52bc514d16ccf806818ce91ab7793736
		5af90bbf74a35be6b40b8eedf2785e42 874d`
	out, err := Xor(key0to31(), api.Nonce{7: 0x4a}, 1, []byte(text))
	if err != api.OK {
		t.Errorf("Xor: %d", err)
	}
	checkBytes(t, "Xor", out, want)
}

// P5.4: texts of all lengths from every place within a block, far up the key stream, too.
func TestXorFromAllPlaces(t *testing.T) {
	text := drawnText(60, 1000)
	for _, block := range []uint64{0, 1, 255, 256, 1<<31 - 1, 1<<32 - 20} {
		for within := range uint64(64) {
			for _, n := range lengths {
				checkLaid(t, streamAt(t, 64*block+within), text[:n])
			}
		}
	}
}

// P5.4, R4: texts of no byte move nothing.
func TestXorOfNothing(t *testing.T) {
	for _, place := range []uint64{0, 1, 63, 64, 1 << 37, lastPlace - 1, lastPlace} {
		s := streamAt(t, place)
		for _, b := range [][]byte{nil, {}, drawnText(61, 9)[:0]} {
			checkLaid(t, s, b)
			checkAt(t, s, place)
		}
	}
}

// P5.4: up to the end, each length that is left; one more is refused, and nothing has changed.
func TestXorAboutTheEnd(t *testing.T) {
	text := drawnText(62, 400)
	for left := range 200 {
		place := uint64(lastPlace - left)
		s := streamAt(t, place)
		for _, more := range []int{1, 2, 63, 64, 65, 200} {
			checkXor(t, s, left+more, api.ErrCounter)
			checkAt(t, s, place)
		}
		checkLaid(t, s, text[:left/2])
		checkXor(t, s, left-left/2+1, api.ErrCounter)
		checkLaid(t, s, text[left/2:left])
		checkAt(t, s, lastPlace)
		checkXor(t, s, 1, api.ErrCounter)
		checkXor(t, s, 0, api.OK)
		checkAt(t, s, lastPlace)
	}
}

// P5.5: near and far, from several places, up to the end.
func TestSkip(t *testing.T) {
	for _, place := range []uint64{0, 1, 63, 64, 65, 1 << 32, lastPlace - 129, lastPlace - 1, lastPlace} {
		left := lastPlace - place
		for _, far := range []uint64{0, 1, 2, 63, 64, 65, 128, 1 << 31, 1 << 32, 1<<37 + 1, left / 2, left - left/3, left} {
			if far <= left {
				s := streamAt(t, place)
				checkSkip(t, s, int(far), api.OK)
				checkGoesOn(t, s, place+far)
			}
		}
	}
}

// P5.5, R2: below 0, and beyond the end, as far as a number goes: nothing has changed.
func TestSkipRefused(t *testing.T) {
	for _, place := range []uint64{0, 1, 64, 1 << 33, lastPlace - 64, lastPlace - 1, lastPlace} {
		left := int(lastPlace - place)
		for _, n := range []int{-1, -2, -64, -1 << 31, -1 << 38, -left - 1, math.MinInt + 1, math.MinInt} {
			s := streamAt(t, place)
			checkSkip(t, s, n, api.ErrArg)
			checkGoesOn(t, s, place)
		}
		for _, n := range []int{left + 1, left + 2, left + 64, lastPlace + 1, 1 << 62, math.MaxInt - lastPlace, math.MaxInt} {
			s := streamAt(t, place)
			checkSkip(t, s, n, api.ErrCounter)
			checkGoesOn(t, s, place)
		}
	}
}

// P5.6, P5.7: the call and a stream say the same, and both bring the text back.
func TestXorOfWholeTexts(t *testing.T) {
	text := drawnText(63, 1000)
	for _, counter := range []uint32{0, 1, 3, 1 << 31, math.MaxUint32 - 15} {
		for _, n := range lengths {
			out, err := Xor(someKey, someNonce, counter, text[:n])
			if err != api.OK || !bytes.Equal(out, against(text[:n], 64*uint64(counter))) {
				t.Fatalf("Xor of %d bytes with the counter %d: %d", n, counter, err)
			}
			other, err := New(someKey, someNonce, counter).Xor(text[:n])
			if err != api.OK || !bytes.Equal(out, other) {
				t.Fatalf("a stream says otherwise of %d bytes: %d", n, err)
			}
			back, err := Xor(someKey, someNonce, counter, out)
			if err != api.OK || !bytes.Equal(back, text[:n]) {
				t.Fatalf("%d bytes do not come back: %d", n, err)
			}
		}
	}
}

// P5.6: the last blocks of the key stream, and one byte more than they have.
func TestXorOfTheLastBlocks(t *testing.T) {
	for blocks := range 5 {
		n, counter := 64*(blocks+1), uint32(math.MaxUint32-blocks)
		if out, err := Xor(someKey, someNonce, counter, make([]byte, n)); err != api.OK || len(out) != n {
			t.Errorf("Xor of %d bytes = %d bytes, %d", n, len(out), err)
		}
		if out, err := Xor(someKey, someNonce, counter, make([]byte, n+1)); err != api.ErrCounter || len(out) != 0 {
			t.Errorf("Xor of %d bytes = %d bytes, %d", n+1, len(out), err)
		}
	}
}

// P5.7: two pieces, cut at every place, and single bytes.
func TestTextsInPieces(t *testing.T) {
	text := drawnText(64, 200)
	for _, place := range []uint64{0, 5, 63, 1<<32 - 70, lastPlace - 200} {
		want := against(text, place)
		for cut := range len(text) + 1 {
			s := streamAt(t, place)
			first, _ := s.Xor(text[:cut])
			second, _ := s.Xor(text[cut:])
			if !bytes.Equal(append(first, second...), want) {
				t.Fatalf("cut at %d, from %d on: not what the whole gives", cut, place)
			}
		}
		s, whole := streamAt(t, place), []byte{}
		for i := range text {
			piece, _ := s.Xor(text[i : i+1])
			whole = append(whole, piece...)
		}
		if !bytes.Equal(whole, want) {
			t.Fatalf("single bytes, from %d on: not what the whole gives", place)
		}
	}
}

// P5.7: bytes 0 laid over a block's place are the block.
func TestBlocksInStreams(t *testing.T) {
	for _, counter := range []uint32{0, 1, 2, 1 << 16, 1 << 31, math.MaxUint32 - 1, math.MaxUint32} {
		block := Block(someKey, counter, someNonce)
		out, err := streamAt(t, 64*uint64(counter)).Xor(make([]byte, 64))
		if err != api.OK || !bytes.Equal(out, block[:]) {
			t.Errorf("the block %d = %x, %d, want %x", counter, out, err, block)
		}
	}
}

// P5.4, P5.5, P5.7: drawn lives of three streams in turns, held against their places alone.
func TestLivesOfStreams(t *testing.T) {
	source := rand.New(rand.NewSource(65))
	for range 200 {
		starts := []uint64{0, uint64(source.Int63n(lastPlace)), lastPlace - uint64(source.Intn(3000))}
		var streams []*Stream
		for _, place := range starts {
			streams = append(streams, streamAt(t, place))
		}
		for range 30 {
			at := source.Intn(len(streams))
			s, n := streams[at], source.Intn(200)
			switch left := lastPlace - int(s.At()); {
			case n > left:
				checkXor(t, s, n, api.ErrCounter)
				checkSkip(t, s, n, api.ErrCounter)
			case source.Intn(3) == 0:
				checkSkip(t, s, n, api.OK)
				starts[at] += uint64(n)
			default:
				checkLaid(t, s, drawnText(source.Int63(), n))
				starts[at] += uint64(n)
			}
			checkAt(t, s, starts[at])
		}
	}
}

// R1, R3: a nil stream says ErrNil ahead of all else.
func TestNilStream(t *testing.T) {
	var s *Stream
	for _, n := range []int{0, 1, 64, 1000} {
		checkXor(t, s, n, api.ErrNil)
	}
	if out, err := s.Xor(nil); len(out) != 0 || err != api.ErrNil {
		t.Errorf("Xor of nil = %x, %d", out, err)
	}
	for _, n := range []int{math.MinInt, -1, 0, 1, lastPlace + 1, math.MaxInt} {
		checkSkip(t, s, n, api.ErrNil)
	}
	checkAt(t, s, 0)
}

// R5: what is handed in stays as it is, with the room behind its end; the answer shares nothing with it.
func TestTextsStay(t *testing.T) {
	for _, n := range lengths {
		room := drawnText(66, n+70)
		before := bytes.Clone(room)
		s := streamAt(t, 10)
		out, _ := s.Xor(room[:n])
		other, _ := Xor(someKey, someNonce, 0, room[:n])
		New(someKey, someNonce, math.MaxUint32).Xor(room)
		clear(out[:cap(out)])
		clear(other[:cap(other)])
		if !bytes.Equal(room, before) {
			t.Fatalf("a text of %d bytes has changed", n)
		}
	}
}

// R5: neither a text nor an answer is kept.
func TestNothingIsKept(t *testing.T) {
	for _, n := range lengths {
		s, text := streamAt(t, 10), drawnText(67, n)
		first, _ := s.Xor(text)
		want := bytes.Clone(first)
		clear(text)
		if !bytes.Equal(first, want) {
			t.Fatalf("an answer of %d bytes shares its text's memory", n)
		}
		second, _ := s.Xor(make([]byte, n))
		clear(first[:cap(first)])
		if !bytes.Equal(second, keyBytes(10+uint64(n), n)) {
			t.Fatalf("two answers of %d bytes share memory", n)
		}
		checkGoesOn(t, s, 10+2*uint64(n))
	}
}

// R5: a key and a nonce that are changed afterwards, and a block that is, change no stream.
func TestKeysAreValues(t *testing.T) {
	key, nonce := someKey, someNonce
	s := New(key, nonce, 3)
	block := Block(key, 3, nonce)
	clear(block[:])
	clear(key[:])
	clear(nonce[:])
	checkGoesOn(t, s, 192)
}
