package seal

import (
	"bytes"
	"math"
	"math/rand"
	"testing"

	"tryst/api"
	"tryst/stream"
	"tryst/tag"
)

// lengths end about the chunks of a tag and the blocks of a key stream.
var lengths = []int{0, 1, 2, 15, 16, 17, 31, 32, 33, 47, 48, 49, 63, 64, 65, 127, 128, 129, 200, 1000}

func drawn(seed int64, n int) []byte {
	b := make([]byte, n)
	rand.New(rand.NewSource(seed)).Read(b)
	return b
}

// someKeys are of bytes 00, of bytes ff, and drawn ones, each with a nonce of its own.
func someKeys() ([]api.Key, []api.Nonce) {
	full := bytes.Repeat([]byte{0xff}, 32)
	keys := []api.Key{{}, api.Key(full), api.Key(drawn(1, 32)), api.Key(drawn(2, 32))}
	nonces := []api.Nonce{{}, api.Nonce(full[:12]), api.Nonce(drawn(3, 12)), api.Nonce(drawn(4, 12))}
	return keys, nonces
}

// little goes by the document's words: the lowest byte first.
func little(v uint64, size int) []byte {
	b := []byte{}
	for range size {
		b = append(b, byte(v%256))
		v /= 256
	}
	return b
}

func filled(b []byte) []byte {
	out := bytes.Clone(b)
	for len(out)%16 != 0 {
		out = append(out, 0)
	}
	return out
}

// wantedCover goes block by block from the counter 1 on.
func wantedCover(key api.Key, nonce api.Nonce, text []byte) []byte {
	var block [64]byte
	cover := bytes.Clone(text)
	for i := range cover {
		if i%64 == 0 {
			block = stream.Block(key, uint32(1+i/64), nonce)
		}
		cover[i] ^= block[i%64]
	}
	return cover
}

// wantedTag goes by the chapter's words, all bytes in one list.
func wantedTag(key api.Key, nonce api.Nonce, more, cover []byte) []byte {
	block := stream.Block(key, 0, nonce)
	vouched := append(filled(more), filled(cover)...)
	vouched = append(vouched, little(uint64(len(more)), 8)...)
	vouched = append(vouched, little(uint64(len(cover)), 8)...)
	code := tag.Sum(api.Key(block[:32]), vouched)
	return code[:]
}

// boxOf is the one box with that cover that opens.
func boxOf(key api.Key, nonce api.Nonce, more, cover []byte) []byte {
	return append(bytes.Clone(cover), wantedTag(key, nonce, more, cover)...)
}

func wantedBox(key api.Key, nonce api.Nonce, more, text []byte) []byte {
	return boxOf(key, nonce, more, wantedCover(key, nonce, text))
}

// P7.1: each bit of both numbers, their ends, drawn ones.
func TestNonces(t *testing.T) {
	check := func(kind uint32, number uint64) {
		t.Helper()
		nonce := Nonce(kind, number)
		checkBytes(t, "Nonce", nonce[:], append(little(uint64(kind), 4), little(number, 8)...))
	}
	for bit := range 64 {
		check(0, 1<<bit)
		check(math.MaxUint32, ^uint64(1<<bit))
		check(1<<(bit%32), 0)
		check(^uint32(1<<(bit%32)), math.MaxUint64)
	}
	source := rand.New(rand.NewSource(5))
	for range 500 {
		check(source.Uint32(), source.Uint64())
	}
	check(0, 0)
	check(0x04030201, 0x0c0b0a0908070605)
}

// P7.2, P7.3, P7.4, P7.5: all lengths of texts beside all lengths of more, asked twice (R6).
func TestBoxesOfAllLengths(t *testing.T) {
	keys, nonces := someKeys()
	for i, key := range keys {
		for _, n := range lengths {
			for _, m := range lengths {
				text, more := drawn(int64(n), n), drawn(int64(m+7), m)
				for range 2 {
					box := sealed(t, key, nonces[i], more, text)
					checkBytes(t, "Seal", box, wantedBox(key, nonces[i], more, text))
					checkOpens(t, key, nonces[i], more, box, text)
				}
			}
		}
	}
}

// P7.2, P7.5: every length up to several blocks, texts of bytes 00 and ff.
func TestBoxesOfEachLength(t *testing.T) {
	key, nonce, more, _ := given()
	for n := range 200 {
		for _, text := range [][]byte{make([]byte, n), bytes.Repeat([]byte{0xff}, n)} {
			box := sealed(t, key, nonce, more, text)
			if len(box) != n+16 {
				t.Fatalf("the box of %d bytes has %d", n, len(box))
			}
			checkBytes(t, "Seal", box, wantedBox(key, nonce, more, text))
			checkOpens(t, key, nonce, more, box, text)
		}
	}
}

// P7.2, P7.3, P7.5: drawn keys, nonces, more and texts.
func TestAnyBoxes(t *testing.T) {
	source := rand.New(rand.NewSource(6))
	for range 1000 {
		key := api.Key(drawn(source.Int63(), 32))
		nonce := Nonce(source.Uint32(), source.Uint64())
		more := drawn(source.Int63(), source.Intn(60))
		text := drawn(source.Int63(), source.Intn(300))
		box := sealed(t, key, nonce, more, text)
		checkBytes(t, "Seal", box, wantedBox(key, nonce, more, text))
		checkOpens(t, key, nonce, more, box, text)
	}
}

// P7.2, P7.3: the box of RFC 8439, A.5.
func TestBoxOfTheStandard(t *testing.T) {
	key := api.Key(unhex("1c9240a5eb55d38af333888604f6b5f0 473917c1402b80099dca5cbc207075c0"))
	nonce := api.Nonce(unhex("000000000102030405060708"))
	more := unhex("f33388860000000000004e91")
	const text = "Internet-Drafts are draft documents valid for a maximum of six months and may be updated, replaced, or obsoleted by other documents at any time. It is inappropriate to use Internet-Drafts as reference material or to cite them other than as /\u201cwork in progress./\u201d"
	want := unhex(`
		64a0861575861af460f062c79be643bd 5e805cfd345cf389f108670ac76c8cb2
		4c6cfc18755d43eea09ee94e382d26b0 bdb7b73c321b0100d4f03b7f355894cf
		332f830e710b97ce98c8a84abd0b9481 14ad176e008d33bd60f982b1ff37c855
		9797a06ef4f0ef61c186324e2b350638 3606907b6a7c02b0f9f6157b53c867e4
		b9166c767b804d46a59b5216cde7a4e9 9040c5a40433225ee282a1b0a06c523e
		af4534d7f83fa1155b0047718cbc546a 0d072b04b3564eea1b422273f548271a
		0bb2316053fa76991955ebd63159434e cebb4e466dae5a1073a6727627097a10
		49e617d91d361094fa68f0ff77987130 305beaba2eda04df997b714d6c6f2c29
		a6ad5cb4022b02709b
		eead9d67890cbb22392336fea1851f38`)
	checkBytes(t, "Seal", sealed(t, key, nonce, more, []byte(text)), want)
	checkOpens(t, key, nonce, more, want, []byte(text))
}

// P7.2, P7.3, P7.4: text, more and box at their limits.
func TestBoxesAtTheLimit(t *testing.T) {
	key, nonce, few, _ := given()
	long := drawn(7, api.MaxBytes)
	for _, c := range []struct{ more, text []byte }{{few, long}, {long, few}, {long, long}, {long, nil}, {nil, long}} {
		box := sealed(t, key, nonce, c.more, c.text)
		if !bytes.Equal(box, wantedBox(key, nonce, c.more, c.text)) {
			t.Fatalf("the box of %d bytes with %d more is another one", len(c.text), len(c.more))
		}
		text, err := Open(key, nonce, c.more, box)
		if err != api.OK || !bytes.Equal(text, c.text) {
			t.Fatalf("Open of %d bytes with %d more: %d", len(box), len(c.more), err)
		}
		text, right, err := Peek(key, nonce, c.more, box)
		if err != api.OK || right != allOnes || !bytes.Equal(text, c.text) {
			t.Fatalf("Peek of %d bytes with %d more: %#x, %d", len(box), len(c.more), right, err)
		}
	}
	checkWrongTag(t, "a wrong box at the limit", key, nonce, long, make([]byte, api.MaxBytes+16))
}

// P7.2, R2: one byte beyond the limit, and far beyond it.
func TestSealRefuses(t *testing.T) {
	key, nonce, few, _ := given()
	long := make([]byte, api.MaxBytes*2)
	for _, n := range []int{api.MaxBytes + 1, api.MaxBytes + 16, api.MaxBytes + 17, len(long)} {
		for _, c := range []struct{ more, text []byte }{
			{nil, long[:n]}, {few, long[:n]}, {long[:n], nil}, {long[:n], few}, {long[:n], long[:n]},
			{long[:api.MaxBytes], long[:n]}, {long[:n], long[:api.MaxBytes]},
		} {
			if box, err := Seal(key, nonce, c.more, c.text); err != api.ErrLong || len(box) != 0 {
				t.Errorf("Seal of %d bytes with %d more = %d bytes, %d", len(c.text), len(c.more), len(box), err)
			}
		}
	}
}

// P7.3, P7.4, R2: boxes too short, whatever more is; then more or box too long, whatever the tag is.
func TestOpenAndPeekRefuse(t *testing.T) {
	key, nonce, few, _ := given()
	long := make([]byte, api.MaxBytes*2)
	for n := range 16 {
		for _, more := range [][]byte{nil, few, long[:api.MaxBytes], long[:api.MaxBytes+1], long} {
			checkRefused(t, more, long[:n], api.ErrLength)
		}
	}
	checkRefused(t, nil, nil, api.ErrLength)
	checkRefused(t, long, nil, api.ErrLength)
	for _, n := range []int{16, 17, 100, api.MaxBytes, api.MaxBytes + 16, api.MaxBytes + 17} {
		checkRefused(t, long[:api.MaxBytes+1], long[:n], api.ErrLong)
		checkRefused(t, long, long[:n], api.ErrLong)
	}
	for _, more := range [][]byte{nil, few, long[:api.MaxBytes], long[:api.MaxBytes+1]} {
		checkRefused(t, more, long[:api.MaxBytes+17], api.ErrLong)
		checkRefused(t, more, long, api.ErrLong)
	}
	beyond := boxOf(key, nonce, few, long[:api.MaxBytes+1]) // its tag is right
	checkRefused(t, few, beyond, api.ErrLong)
	checkRefused(t, long[:api.MaxBytes+1], boxOf(key, nonce, long[:api.MaxBytes+1], few), api.ErrLong)
}

// P7.3, P7.4: boxes of 16 and 17 bytes whose tags are wrong.
func TestWrongBoxesOfFewBytes(t *testing.T) {
	key, nonce, more, _ := given()
	for n := 16; n < 80; n++ {
		checkWrongTag(t, "bytes 00", key, nonce, more, make([]byte, n))
		checkWrongTag(t, "bytes ff", key, nonce, nil, bytes.Repeat([]byte{0xff}, n))
		checkWrongTag(t, "drawn bytes", key, nonce, more, drawn(int64(n), n))
	}
}

// P7.3, P7.4: each one bit of a box turned, in the cover and in the tag.
func TestTurnedBits(t *testing.T) {
	key, nonce, _, _ := given()
	for _, n := range []int{0, 1, 15, 16, 17, 64, 65, 150} {
		for _, m := range []int{0, 13, 16} {
			more := drawn(8, m)
			box := sealed(t, key, nonce, more, drawn(9, n))
			for bit := range 8 * len(box) {
				box[bit/8] ^= 1 << (bit % 8)
				checkWrongTag(t, "a bit turned", key, nonce, more, box)
				box[bit/8] ^= 1 << (bit % 8)
			}
			checkOpens(t, key, nonce, more, box, drawn(9, n))
		}
	}
}

// P7.3: tags with several bytes turned, so that neither their sum nor their exclusive or tells.
func TestTurnedTags(t *testing.T) {
	key, nonce, more, text := given()
	box := sealed(t, key, nonce, more, text)
	code := len(box) - 16
	for i := range 16 {
		for j := range i {
			for _, by := range []byte{1, 0x80, 0xff} {
				alike, moved := bytes.Clone(box), bytes.Clone(box)
				alike[code+i] ^= by
				alike[code+j] ^= by
				moved[code+i] += by
				moved[code+j] -= by
				checkWrongTag(t, "two bytes turned", key, nonce, more, alike)
				checkWrongTag(t, "two bytes moved", key, nonce, more, moved)
			}
		}
	}
}

// P7.3, P7.4: bytes left out or laid on, ahead and behind.
func TestBoxesOfOtherLengths(t *testing.T) {
	key, nonce, more, text := given()
	box := sealed(t, key, nonce, more, text)
	for n := 1; len(box)-n >= 16; n++ {
		checkWrongTag(t, "left out behind", key, nonce, more, box[:len(box)-n])
		checkWrongTag(t, "left out ahead", key, nonce, more, box[n:])
	}
	for n := 1; n < 40; n++ {
		checkWrongTag(t, "laid on behind", key, nonce, more, append(bytes.Clone(box), make([]byte, n)...))
		checkWrongTag(t, "laid on ahead", key, nonce, more, append(make([]byte, n), box...))
		between := append(bytes.Clone(box[:len(text)]), make([]byte, n)...)
		checkWrongTag(t, "laid between", key, nonce, more, append(between, box[len(text):]...))
	}
}

// P7.3, P7.4: another more: each bit, other lengths, bytes 0 that would only fill it up.
func TestAnotherMore(t *testing.T) {
	key, nonce, _, text := given()
	for _, m := range []int{0, 1, 15, 16, 17, 40} {
		more := drawn(10, m)
		box := sealed(t, key, nonce, more, text)
		for bit := range 8 * m {
			other := bytes.Clone(more)
			other[bit/8] ^= 1 << (bit % 8)
			checkWrongTag(t, "another bit in more", key, nonce, other, box)
		}
		for n := range m {
			checkWrongTag(t, "less of more", key, nonce, more[:n], box)
		}
		for n := 1; n < 35; n++ {
			checkWrongTag(t, "zeros behind more", key, nonce, append(bytes.Clone(more), make([]byte, n)...), box)
		}
	}
}

// P7.3: what moves from more into the cover, or back, is not what was vouched for.
func TestMoreIsNoCover(t *testing.T) {
	key, nonce, _, _ := given()
	whole := append(drawn(11, 64), make([]byte, 16)...)
	for from := 0; from <= len(whole); from += 4 {
		code := wantedTag(key, nonce, whole[:from], whole[from:])
		for to := 0; to <= len(whole); to++ {
			if to != from {
				checkWrongTag(t, "moved", key, nonce, whole[:to], append(bytes.Clone(whole[to:]), code...))
			}
		}
	}
}

// P7.3, P7.4: another nonce and another key, bit by bit.
func TestAnotherNonceOrKey(t *testing.T) {
	key, nonce, more, text := given()
	for _, n := range []int{0, 1, len(text)} {
		box := sealed(t, key, nonce, more, text[:n])
		for bit := range 8 * len(nonce) {
			other := nonce
			other[bit/8] ^= 1 << (bit % 8)
			checkWrongTag(t, "another nonce", key, other, more, box)
		}
		for bit := range 8 * len(key) {
			other := key
			other[bit/8] ^= 1 << (bit % 8)
			checkWrongTag(t, "another key", other, nonce, more, box)
		}
	}
}

// P7.6: any cover with its tag opens, and Seal of its text is that box.
func TestOneForm(t *testing.T) {
	keys, nonces := someKeys()
	for i, key := range keys {
		for _, n := range lengths {
			more := drawn(12, n%23)
			for _, cover := range [][]byte{make([]byte, n), bytes.Repeat([]byte{0xff}, n), drawn(13, n)} {
				box := boxOf(key, nonces[i], more, cover)
				checkOpens(t, key, nonces[i], more, box, wantedCover(key, nonces[i], cover))
				text, _ := Open(key, nonces[i], more, box)
				checkBytes(t, "Seal of what Open answers", sealed(t, key, nonces[i], more, text), box)
			}
		}
	}
}

// P7.6: unlike boxes, unlike texts: covers that are unlike in one bit, or in length.
func TestUnlikeBoxes(t *testing.T) {
	key, nonce, more, _ := given()
	seen := map[string]bool{}
	see := func(cover []byte) {
		t.Helper()
		text, err := Open(key, nonce, more, boxOf(key, nonce, more, cover))
		if err != api.OK || seen[string(text)] {
			t.Fatalf("Open of another box: %d, a text of %d bytes", err, len(text))
		}
		seen[string(text)] = true
	}
	cover := drawn(14, 70)
	for n := range len(cover) + 1 {
		see(cover[:n])
	}
	for bit := range 8 * len(cover) {
		other := bytes.Clone(cover)
		other[bit/8] ^= 1 << (bit % 8)
		see(other)
	}
}

// P7.7: two texts of any lengths, with any more: unlike at just the same bits.
func TestCovers(t *testing.T) {
	source := rand.New(rand.NewSource(15))
	for range 500 {
		key, nonce := api.Key(drawn(source.Int63(), 32)), Nonce(source.Uint32(), source.Uint64())
		first, second := drawn(source.Int63(), source.Intn(200)), drawn(source.Int63(), source.Intn(200))
		one := sealed(t, key, nonce, drawn(source.Int63(), source.Intn(40)), first)
		other := sealed(t, key, nonce, drawn(source.Int63(), source.Intn(40)), second)
		for i := range min(len(first), len(second)) {
			if one[i]^other[i] != first[i]^second[i] {
				t.Fatalf("at %d the covers are unlike by %#x, the texts by %#x", i, one[i]^other[i], first[i]^second[i])
			}
		}
	}
}

// P7.7: the same text has the same cover, whatever more is; the tags are unlike.
func TestCoversGoWithoutMore(t *testing.T) {
	key, nonce, _, text := given()
	plain := sealed(t, key, nonce, nil, text)
	for _, m := range lengths[1:] {
		box := sealed(t, key, nonce, drawn(16, m), text)
		checkBytes(t, "the cover", box[:len(text)], plain[:len(text)])
		if bytes.Equal(box[len(text):], plain[len(text):]) {
			t.Fatalf("the tag with %d more is that without more", m)
		}
	}
}

// R4: nil and empty lists are the same.
func TestNilIsEmpty(t *testing.T) {
	key, nonce, _, text := given()
	for _, n := range []int{0, 20} {
		want := wantedBox(key, nonce, nil, text[:n])
		for _, more := range [][]byte{nil, {}, text[:0]} {
			checkBytes(t, "Seal", sealed(t, key, nonce, more, text[:n]), want)
			checkOpens(t, key, nonce, more, want, text[:n])
		}
	}
	checkBytes(t, "Seal of nil", sealed(t, key, nonce, nil, nil), sealed(t, key, nonce, []byte{}, []byte{}))
	checkRefused(t, []byte{}, []byte{}, api.ErrLength)
}

// R5: what is handed in stays as it is, with the room behind its end, also if the answer is written over.
func TestListsStay(t *testing.T) {
	key, nonce, _, _ := given()
	for _, n := range lengths {
		moreRoom, textRoom := drawn(17, n/2+40), drawn(18, n+40)
		more, text := moreRoom[:n/2], textRoom[:n]
		boxRoom := append(wantedBox(key, nonce, more, text), drawn(19, 40)...)
		rooms := [][]byte{moreRoom, textRoom, boxRoom}
		before := [][]byte{bytes.Clone(moreRoom), bytes.Clone(textRoom), bytes.Clone(boxRoom)}
		for _, box := range [][]byte{boxRoom[:n+16], boxRoom[:n+17], boxRoom[:15]} {
			answers := make([][]byte, 3)
			answers[0], _ = Seal(key, nonce, more, text)
			answers[1], _ = Open(key, nonce, more, box)
			answers[2], _, _ = Peek(key, nonce, more, box)
			for _, answer := range answers {
				overwrite(answer)
			}
			for i, room := range rooms {
				checkBytes(t, "what was handed in", room, before[i])
			}
		}
	}
}

// overwrite goes up to the end of the room that an answer has.
func overwrite(b []byte) {
	b = b[:cap(b)]
	for i := range b {
		b[i] ^= 0x5a
	}
}

// R5: no answer hangs on what becomes of the lists that were handed in, or of another answer.
func TestAnswersAreTheirOwn(t *testing.T) {
	key, nonce, _, _ := given()
	for _, n := range lengths {
		more, text := drawn(20, 20), drawn(21, n)
		want := wantedBox(key, nonce, more, text)
		box, handed := sealed(t, key, nonce, more, text), bytes.Clone(want)
		opened, _ := Open(key, nonce, more, handed)
		peeked, _, _ := Peek(key, nonce, more, handed)
		wrong, _, _ := Peek(key, nonce, nil, handed)
		overwrite(more)
		overwrite(text)
		overwrite(handed)
		checkBytes(t, "the box", box, want)
		overwrite(box)
		checkBytes(t, "what Open answered", opened, drawn(21, n))
		overwrite(opened)
		checkBytes(t, "what Peek answered", peeked, drawn(21, n))
		overwrite(peeked)
		checkBytes(t, "what Peek answered of a wrong box", wrong, make([]byte, n))
	}
}

// R5: one list may be handed in as more and as text or box.
func TestOneListForTwo(t *testing.T) {
	key, nonce, _, _ := given()
	for _, n := range lengths {
		list := drawn(22, n+16)
		box := sealed(t, key, nonce, list, list)
		checkBytes(t, "Seal", box, wantedBox(key, nonce, list, list))
		checkOpens(t, key, nonce, list, box, list)
		checkWrongTag(t, "a box that is its own more", key, nonce, box, box)
		checkBytes(t, "the list", list, drawn(22, n+16))
	}
}
