package page

import (
	"bytes"
	"math"
	"math/rand"
	"testing"

	"tryst/api"
	"tryst/seal"
)

// lengths end about the chunks of a tag, the blocks of a key stream, and the limit.
var lengths = []int{0, 1, 2, 11, 12, 15, 16, 17, 27, 28, 63, 64, 65, 100, 129, 1000, 4095, 4096}

func drawn(seed int64, n int) []byte {
	b := make([]byte, n)
	rand.New(rand.NewSource(seed)).Read(b)
	return b
}

// somePlaces have 0, the greatest number and others in each field, alone and together.
func somePlaces() []api.Place {
	const most, long = math.MaxUint32, math.MaxUint64
	return []api.Place{
		{}, at(long, most, most, most),
		{Round: long}, {Counter: most}, {Page: most}, {Version: most},
		at(0, most, most, most), at(long, 0, most, most), at(long, most, 0, most), at(long, most, most, 0),
		at(1, 0, 5, 1), at(0x0102030405060708, 0x090a0b0c, 0x0d0e0f10, 0x11121314), at(1<<32, 1<<16, 1<<8, 1<<31),
	}
}

// otherWrites are places with another Round or another Counter, each alone: one bit of it, its neighbours, its opposite.
func otherWrites(p api.Place) []api.Place {
	places := []api.Place{}
	add := func(round uint64, counter uint32) {
		places = append(places, at(round, counter, p.Page, p.Version))
	}
	for bit := range 64 {
		add(p.Round^1<<bit, p.Counter)
	}
	for bit := range 32 {
		add(p.Round, p.Counter^1<<bit)
	}
	add(p.Round+1, p.Counter)
	add(p.Round-1, p.Counter)
	add(^p.Round, p.Counter)
	add(p.Round, p.Counter+1)
	add(p.Round, p.Counter-1)
	add(p.Round, ^p.Counter)
	return places
}

// sameWrites are places with another Page or another Version, each alone.
func sameWrites(p api.Place) []api.Place {
	places := []api.Place{}
	add := func(page, version uint32) {
		places = append(places, at(p.Round, p.Counter, page, version))
	}
	for bit := range 32 {
		add(p.Page^1<<bit, p.Version)
		add(p.Page, p.Version^1<<bit)
	}
	add(p.Page+1, p.Version)
	add(p.Page-1, p.Version)
	add(^p.Page, p.Version)
	add(p.Page, p.Version+1)
	add(p.Page, p.Version-1)
	add(p.Page, ^p.Version)
	return places
}

func drawnPlace(source *rand.Rand) api.Place {
	return at(source.Uint64(), source.Uint32(), source.Uint32(), source.Uint32())
}

// little goes by the document's words: the lowest byte first.
func little(v uint64, size int) []byte {
	b := []byte{}
	for range size {
		b = append(b, byte(v%256))
		v /= 256
	}
	return b
}

func wantedHead(p api.Place) []byte {
	return append(little(p.Round, 8), little(uint64(p.Counter), 4)...)
}

func wantedMore(p api.Place) []byte {
	return append(little(uint64(p.Page), 4), little(uint64(p.Version), 4)...)
}

// behindHead goes by the chapter's words, but for a limit of the text.
func behindHead(key api.Key, p api.Place, text []byte) []byte {
	box, err := seal.Seal(key, api.Nonce(wantedHead(p)), wantedMore(p), text)
	if err != api.OK {
		panic(err)
	}
	return box
}

func wantedPage(key api.Key, p api.Place, text []byte) []byte {
	return append(wantedHead(p), behindHead(key, p, text)...)
}

func join(a, b []byte) []byte { return append(bytes.Clone(a), b...) }

// P12.1, P12.2: a page as another program of ChaCha20-Poly1305 made it.
func TestPageOfAnotherMaker(t *testing.T) {
	place := at(0x0102030405060708, 0x090a0b0c, 0x0d0e0f10, 0x11121314)
	text := []byte("a text that is held to one place")
	want := unhex(`
		0807060504030201 0c0b0a09
		a704124b358eea804ef7eb7e60a733b3 db3488fc01d6dbe641a11d9274946f12
		8669569cbe655f103fbb3a4d1c70ac4a`)
	checkBytes(t, "Seal", sealed(t, counted(0x80), place, text), want)
	checkOpens(t, counted(0x80), place, want, text)
}

// P12.1, P12.2, P12.4: all lengths at all places, under keys of bytes 00, ff and others, asked twice (R6).
func TestPagesThereAndBack(t *testing.T) {
	for _, key := range []api.Key{{}, api.Key(bytes.Repeat([]byte{0xff}, 32)), api.Key(drawn(1, 32))} {
		for _, place := range somePlaces() {
			for _, n := range lengths {
				text := drawn(int64(n), n)
				for range 2 {
					box := sealed(t, key, place, text)
					checkBytes(t, "Seal", box, wantedPage(key, place, text))
					checkOpens(t, key, place, box, text)
					checkHead(t, box, place.Round, place.Counter)
				}
			}
		}
	}
}

// P12.1, P12.2, P12.4: every length up to several blocks, texts of bytes 00 and ff.
func TestPagesOfEachLength(t *testing.T) {
	key, place := counted(1), at(3, 2, 1, 4)
	for n := range 200 {
		for _, text := range [][]byte{make([]byte, n), bytes.Repeat([]byte{0xff}, n)} {
			box := sealed(t, key, place, text)
			if len(box) != n+28 {
				t.Fatalf("the page of %d bytes has %d", n, len(box))
			}
			checkBytes(t, "Seal", box, wantedPage(key, place, text))
			checkOpens(t, key, place, box, text)
		}
	}
}

// P12.1, P12.2, P12.4: drawn keys, places and texts.
func TestAnyPages(t *testing.T) {
	source := rand.New(rand.NewSource(2))
	for range 500 {
		key, place := api.Key(drawn(source.Int63(), 32)), drawnPlace(source)
		text := drawn(source.Int63(), source.Intn(300))
		box := sealed(t, key, place, text)
		checkBytes(t, "Seal", box, wantedPage(key, place, text))
		checkOpens(t, key, place, box, text)
		checkHead(t, box, place.Round, place.Counter)
		checkOpenRefused(t, "a drawn place", key, drawnPlace(source), box)
	}
}

// P12.1, R2: one byte beyond the limit, as far as a page goes, beyond what layer 7 seals.
func TestSealRefuses(t *testing.T) {
	long := make([]byte, api.MaxBytes+100)
	for _, place := range somePlaces() {
		for _, n := range []int{4097, 4098, mostBytes, mostBytes + 1, 10000, api.MaxBytes, api.MaxBytes + 1, len(long)} {
			checkSealRefused(t, place, long[:n])
		}
	}
}

// P12.2: no bytes, too few, and too many, whatever they are.
func TestOpenOfWrongLengths(t *testing.T) {
	key, place := counted(1), at(1, 2, 3, 4)
	long := join(wantedHead(place), make([]byte, api.MaxBytes+100))
	checkOpenRefused(t, "nil", key, place, nil)
	checkOpenRefused(t, "none", key, place, []byte{})
	empty := sealed(t, key, place, nil)
	for n := range 28 {
		checkOpenRefused(t, "too few", key, place, empty[:n])
		checkOpenRefused(t, "too few", key, place, long[:n])
		checkOpenRefused(t, "too few bytes 0", key, api.Place{}, make([]byte, n))
	}
	for _, n := range []int{28, 29, 4124, 4125, 4126, 5000, api.MaxBytes + 27, api.MaxBytes + 28, api.MaxBytes + 29, len(long)} {
		checkOpenRefused(t, "not sealed", key, place, long[:n])
		checkOpenRefused(t, "not sealed, and another head", key, api.Place{Round: 9}, long[:n])
	}
}

// P12.2: what would open but for its length; with 4124 bytes it does.
func TestOpenAtTheLimit(t *testing.T) {
	key := counted(1)
	for _, place := range somePlaces() {
		text := drawn(3, api.MaxBytes)
		checkOpens(t, key, place, wantedPage(key, place, text[:4096]), text[:4096])
		for _, n := range []int{4097, 4098, 4112, 5000} {
			checkOpenRefused(t, "a long page", key, place, wantedPage(key, place, text[:n]))
		}
	}
	place := api.Place{Round: 1}
	checkOpenRefused(t, "as long as a box may be", key, place, wantedPage(key, place, drawn(3, api.MaxBytes)))
}

// P12.2, P12.5: each other Round and each other Counter alone, and both.
func TestOpenAtAnotherWrite(t *testing.T) {
	key := counted(1)
	for _, place := range somePlaces() {
		for _, n := range []int{0, 1, 100, 4096} {
			box := sealed(t, key, place, drawn(4, n))
			for _, other := range otherWrites(place) {
				checkOpenRefused(t, "another write", key, other, box)
			}
			both := place
			both.Round, both.Counter = uint64(place.Counter)+7, uint32(place.Round)+7
			checkOpenRefused(t, "another Round and another Counter", key, both, box)
			checkOpens(t, key, place, box, drawn(4, n))
		}
	}
}

// P12.2: each other Page and each other Version alone, and each in the other's stead.
func TestOpenOfAnotherPageOrVersion(t *testing.T) {
	key := counted(1)
	for _, place := range somePlaces() {
		for _, n := range []int{0, 1, 100, 4096} {
			box := sealed(t, key, place, drawn(5, n))
			for _, other := range sameWrites(place) {
				checkOpenRefused(t, "another page or version", key, other, box)
			}
			if place.Page != place.Version {
				checkOpenRefused(t, "the one for the other", key, at(place.Round, place.Counter, place.Version, place.Page), box)
			}
		}
	}
}

// P12.2: another key, bit by bit.
func TestOpenUnderAnotherKey(t *testing.T) {
	key, place := counted(1), at(1, 0, 5, 1)
	for _, n := range []int{0, 1, 100} {
		box := sealed(t, key, place, drawn(6, n))
		for bit := range 8 * len(key) {
			other := key
			other[bit/8] ^= 1 << (bit % 8)
			checkOpenRefused(t, "another key", other, place, box)
		}
	}
}

// P12.2: each one bit turned: in the first 12 bytes, in the cover, in the tag, in the last byte.
func TestOpenOfTurnedBits(t *testing.T) {
	key, place := counted(1), at(1, 0, 5, 1)
	for _, n := range []int{0, 1, 16, 100} {
		box := sealed(t, key, place, drawn(7, n))
		for bit := range 8 * len(box) {
			box[bit/8] ^= 1 << (bit % 8)
			checkOpenRefused(t, "a bit turned", key, place, box)
			box[bit/8] ^= 1 << (bit % 8)
		}
		checkOpens(t, key, place, box, drawn(7, n))
	}
}

// P12.2: each byte turned, by any number, of a page of the most bytes.
func TestOpenOfTurnedBytes(t *testing.T) {
	key, place := counted(1), at(0xff00ff00ff00ff00, 0x00ff00ff, 65535, 2)
	box := sealed(t, key, place, drawn(8, 4096))
	for _, i := range []int{0, 1, 2, 3, 4, 5, 6, 7, 8, 9, 10, 11, 12, 13, 2000, 4107, 4108, 4115, 4122, 4123} {
		for by := 1; by < 256; by += 23 {
			box[i] ^= byte(by)
			checkOpenRefused(t, "a byte turned", key, place, box)
			box[i] ^= byte(by)
		}
	}
	checkOpens(t, key, place, box, drawn(8, 4096))
}

// P12.2: bytes left out or laid on, ahead, behind the head, behind all.
func TestOpenOfCutPages(t *testing.T) {
	key, place := counted(1), at(1, 0, 5, 1)
	for _, n := range []int{0, 1, 16, 100, 4095, 4096} {
		box := sealed(t, key, place, drawn(9, n))
		head, behind := box[:12], box[12:]
		for _, k := range []int{1, 2, 12, 16, 17} {
			if k > len(behind) {
				continue
			}
			checkOpenRefused(t, "cut", key, place, box[:len(box)-k])
			checkOpenRefused(t, "cut ahead", key, place, box[k:])
			checkOpenRefused(t, "cut within", key, place, join(head, behind[k:]))
			checkOpenRefused(t, "laid on", key, place, join(box, make([]byte, k)))
			checkOpenRefused(t, "laid on ahead", key, place, join(make([]byte, k), box))
			checkOpenRefused(t, "laid on within", key, place, join(head, join(make([]byte, k), behind)))
		}
	}
}

// P12.2, P12.5: the head of one place with what stands behind another one's opens at neither.
func TestOpenOfPatchedPages(t *testing.T) {
	key, place := counted(1), at(1, 0, 5, 1)
	for _, n := range []int{0, 1, 100} {
		text := drawn(10, n)
		for _, other := range otherWrites(place) {
			patched := join(wantedHead(other), behindHead(key, place, text))
			checkOpenRefused(t, "at the place of the box", key, place, patched)
			checkOpenRefused(t, "at the place of the head", key, other, patched)
		}
	}
}

// P12.2: what is sealed otherwise than a page: other nonces, more that is left out, longer or the other way round.
func TestOpenOfOtherSeals(t *testing.T) {
	key, place := counted(1), at(1, 2, 3, 4)
	head, more, text := api.Nonce(wantedHead(place)), wantedMore(place), []byte("text")
	turned := api.Nonce(join(head[8:], head[:8]))
	for _, c := range []struct {
		nonce api.Nonce
		more  []byte
	}{
		{turned, more}, {api.Nonce{}, more}, {seal.Nonce(1, 2), more}, {head, nil}, {head, more[:4]}, {head, more[4:]},
		{head, join(more, []byte{0})}, {head, join(head[:], more)}, {head, join(more[4:], more[:4])}, {head, make([]byte, 8)},
	} {
		box, err := seal.Seal(key, c.nonce, c.more, text)
		if err != api.OK {
			t.Fatal(err)
		}
		checkOpenRefused(t, "another seal", key, place, join(head[:], box))
	}
	checkOpenRefused(t, "the text itself", key, place, join(head[:], join(text, make([]byte, 16))))
}

// P12.3: as few bytes as may be, and many more than a page has; what is behind the head is not looked at.
func TestHeads(t *testing.T) {
	for _, place := range somePlaces() {
		head := wantedHead(place)
		for _, n := range []int{16, 17, 100, 4112, 4113, 10000, api.MaxBytes + 100} {
			checkHead(t, join(head, make([]byte, n)), place.Round, place.Counter)
			checkHead(t, join(head, drawn(11, n)), place.Round, place.Counter)
		}
		for n := range 16 {
			checkHeadRefused(t, join(head, make([]byte, n)))
		}
		for n := range 12 {
			checkHeadRefused(t, head[:n])
		}
	}
	checkHeadRefused(t, nil)
	checkHeadRefused(t, []byte{})
}

// P12.3: each bit of the first 12 bytes is told at its place.
func TestHeadsBitByBit(t *testing.T) {
	for bit := range 64 {
		checkHead(t, join(wantedHead(api.Place{Round: 1 << bit}), make([]byte, 16)), 1<<bit, 0)
	}
	for bit := range 32 {
		checkHead(t, join(wantedHead(api.Place{Counter: 1 << bit}), make([]byte, 16)), 0, 1<<bit)
	}
}

// P12.4: what Open opens is what Seal tells of the text that it answers.
func TestOneForm(t *testing.T) {
	for _, place := range somePlaces() {
		for _, n := range lengths {
			box := wantedPage(counted(1), place, drawn(12, n))
			text, err := Open(counted(1), place, box)
			if err != api.OK {
				t.Fatalf("Open at %v: %d", place, err)
			}
			checkBytes(t, "Seal of what Open answers", sealed(t, counted(1), place, text), box)
		}
	}
}

// P12.5: heads are alike just where Round and Counter are, whatever key, text, Page and Version are.
func TestHeadsOfTwoPlaces(t *testing.T) {
	headAt := func(key api.Key, p api.Place, n int) api.Nonce {
		return api.Nonce(sealed(t, key, p, drawn(13, n))[:12])
	}
	for _, place := range somePlaces() {
		head := headAt(counted(1), place, 20)
		for i, other := range sameWrites(place) {
			if headAt(counted(byte(i)), other, i) != head {
				t.Fatalf("the heads of %v and %v are unlike", place, other)
			}
		}
		for _, other := range otherWrites(place) {
			if headAt(counted(1), other, 20) == head {
				t.Fatalf("the heads of %v and %v are the same", place, other)
			}
		}
	}
}

// P12.5: no byte of the Round can be taken for one of the Counter.
func TestHeadsOfMovedNumbers(t *testing.T) {
	seen := map[api.Nonce]api.Place{}
	numbers := []uint32{0, 1, 256, 1 << 16, 1 << 24, 1 << 31, math.MaxUint32}
	for _, low := range numbers {
		for _, high := range numbers {
			for _, counter := range numbers {
				place := api.Place{Round: uint64(high)<<32 | uint64(low), Counter: counter}
				head := api.Nonce(sealed(t, counted(1), place, nil)[:12])
				if other, ok := seen[head]; ok {
					t.Fatalf("the heads of %v and %v are the same", place, other)
				}
				seen[head] = place
			}
		}
	}
}
