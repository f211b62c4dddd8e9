package stream

import (
	"math"
	"math/rand"
	"testing"

	"tryst/api"
)

const wrap = 1 << 32

// turnedLeft makes room above a word by a product, and brings what came there back below.
func turnedLeft(word uint64, by int) uint64 {
	word *= 1 << by
	return word%wrap + word/wrap
}

// wantedQuarter goes by the steps of P5.1, in numbers that have room for what wraps.
func wantedQuarter(w [4]uint64) [4]uint64 {
	const a, b, c, d = 0, 1, 2, 3
	for _, step := range []struct{ sum, of, against, turn int }{{a, b, d, 16}, {c, d, b, 12}, {a, b, d, 8}, {c, d, b, 7}} {
		w[step.sum] = (w[step.sum] + w[step.of]) % wrap
		w[step.against] = turnedLeft(w[step.against]^w[step.sum], step.turn)
	}
	return w
}

// wantedBlock goes by the places of P5.2.
func wantedBlock(key api.Key, counter uint32, nonce api.Nonce) (block [64]byte) {
	words := []uint64{0x61707865, 0x3320646e, 0x79622d32, 0x6b206574}
	row := append(key[:], byte(counter), byte(counter>>8), byte(counter>>16), byte(counter>>24))
	row = append(row, nonce[:]...)
	for ; len(row) > 0; row = row[4:] {
		words = append(words, uint64(row[0])+uint64(row[1])<<8+uint64(row[2])<<16+uint64(row[3])<<24)
	}
	stirred := append([]uint64{}, words...)
	for range 10 {
		for _, at := range [][4]int{
			{0, 4, 8, 12}, {1, 5, 9, 13}, {2, 6, 10, 14}, {3, 7, 11, 15},
			{0, 5, 10, 15}, {1, 6, 11, 12}, {2, 7, 8, 13}, {3, 4, 9, 14},
		} {
			out := wantedQuarter([4]uint64{stirred[at[0]], stirred[at[1]], stirred[at[2]], stirred[at[3]]})
			for i, place := range at {
				stirred[place] = out[i]
			}
		}
	}
	for i := range block {
		block[i] = byte((words[i/4] + stirred[i/4]) >> (8 * (i % 4)))
	}
	return block
}

func checkQuarter(t *testing.T, a, b, c, d uint32) {
	t.Helper()
	want := wantedQuarter([4]uint64{uint64(a), uint64(b), uint64(c), uint64(d)})
	w, x, y, z := Quarter(a, b, c, d)
	if got := [4]uint64{uint64(w), uint64(x), uint64(y), uint64(z)}; got != want {
		t.Fatalf("Quarter(%#x, %#x, %#x, %#x) = %#x, want %#x", a, b, c, d, got, want)
	}
}

func checkBlock(t *testing.T, key api.Key, counter uint32, nonce api.Nonce) {
	t.Helper()
	if got, want := Block(key, counter, nonce), wantedBlock(key, counter, nonce); got != want {
		t.Fatalf("Block(%x, %d, %x) = %x, want %x", key, counter, nonce, got, want)
	}
}

// P5.1: all fours of words at their ends and at the places where turning cuts them.
func TestQuarterOfWordsAtTheirEnds(t *testing.T) {
	words := []uint32{
		0, 1, 2, 1 << 15, 1 << 16, 1<<16 - 1, 1 << 20, 1 << 24, 1 << 25, 1<<31 - 1, 1 << 31, math.MaxUint32 - 1, math.MaxUint32,
	}
	for _, a := range words {
		for _, b := range words {
			for _, c := range words {
				for _, d := range words {
					checkQuarter(t, a, b, c, d)
				}
			}
		}
	}
}

// P5.1: each single bit of each word, and drawn words.
func TestQuarterOfAnyWords(t *testing.T) {
	for bit := range 32 {
		word := uint32(1) << bit
		checkQuarter(t, word, 0, 0, 0)
		checkQuarter(t, 0, word, 0, 0)
		checkQuarter(t, 0, 0, word, 0)
		checkQuarter(t, 0, 0, 0, word)
	}
	source := rand.New(rand.NewSource(50))
	for range 20000 {
		checkQuarter(t, source.Uint32(), source.Uint32(), source.Uint32(), source.Uint32())
	}
}

// P5.1: the four words of RFC 8439, 2.2.1.
func TestQuarterOfTheStandard(t *testing.T) {
	a, b, c, d := Quarter(0x516461b1, 0x2a5f714c, 0x53372767, 0x3d631689)
	if got, want := [4]uint32{a, b, c, d}, [4]uint32{0xbdb886dc, 0xcfacafd2, 0xe46bea80, 0xccc07c79}; got != want {
		t.Errorf("Quarter = %#x, want %#x", got, want)
	}
}

// P5.2: blocks of RFC 8439, 2.3.2 and A.1.
func TestBlocksOfTheStandard(t *testing.T) {
	for _, c := range []struct {
		key     api.Key
		counter uint32
		nonce   api.Nonce
		want    string
	}{
		{key0to31(), 1, api.Nonce{3: 9, 7: 0x4a}, `
			10f1e7e4d13b5915500fdd1fa32071c4 c7d1f4c733c068030422aa9ac3d46c4e
			d2826446079faa0914c2d705d98b02a2 b5129cd1de164eb9cbd083e8a2503c4e`},
		{api.Key{}, 0, api.Nonce{}, `
			76b8e0ada0f13d90405d6ae55386bd28 bdd219b8a08ded1aa836efcc8b770dc7
			da41597c5157488d7724e03fb8d84a37 6a43b8f41518a11cc387b669b2ee6586`},
		{api.Key{}, 1, api.Nonce{}, `
			9f07e7be5551387a98ba977c732d080d cb0f29a048e3656912c6533e32ee7aed
			29b721769ce64e43d57133b074d839d5 31ed1f28510afb45ace10a1f4b794d6f`},
	} {
		block := Block(c.key, c.counter, c.nonce)
		checkBytes(t, "Block", block[:], c.want)
	}
}

// P5.2: counters at their ends and where a byte of them is full.
func TestBlocksOfCounters(t *testing.T) {
	for _, counter := range []uint32{
		0, 1, 2, 255, 256, 257, 1<<16 - 1, 1 << 16, 1<<24 - 1, 1 << 24, 1<<31 - 1, 1 << 31, math.MaxUint32 - 1, math.MaxUint32,
	} {
		checkBlock(t, api.Key{}, counter, api.Nonce{})
		checkBlock(t, key0to31(), counter, api.Nonce{1, 2, 3, 4, 5, 6, 7, 8, 9, 10, 11, 12})
	}
}

// P5.2: each single byte of a key and of a nonce, and words all of whose bits are set.
func TestBlocksOfSingleBytes(t *testing.T) {
	var fullKey api.Key
	var fullNonce api.Nonce
	for i := range fullKey {
		var key api.Key
		key[i] = 0x80
		checkBlock(t, key, 0, api.Nonce{})
		fullKey[i] = 255
	}
	for i := range fullNonce {
		var nonce api.Nonce
		nonce[i] = 1
		checkBlock(t, api.Key{}, 0, nonce)
		fullNonce[i] = 255
	}
	checkBlock(t, fullKey, math.MaxUint32, fullNonce)
}

// P5.2, R6: drawn blocks, each asked twice.
func TestBlocksOfAnyKeys(t *testing.T) {
	source := rand.New(rand.NewSource(51))
	for range 2000 {
		var key api.Key
		var nonce api.Nonce
		source.Read(key[:])
		source.Read(nonce[:])
		counter := source.Uint32()
		checkBlock(t, key, counter, nonce)
		checkBlock(t, key, counter, nonce)
	}
}
