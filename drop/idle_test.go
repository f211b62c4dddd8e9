package drop

import (
	"math/bits"
	"testing"

	"tryst/api"
	"tryst/stream"
)

// idleOf is what the chapter says of Idle: the key stream block by block.
func idleOf(seed api.Key, round uint64, size int) (api.Drop, []byte) {
	row := expandOf(hmacOf([]byte("tryst idle"), seed[:]), join([]byte("idle"), le8(round)), 48)
	nonce := api.Nonce(join([]byte{3, 0, 0, 0}, le8(round)))
	var message []byte
	for counter := uint32(0); len(message) < size; counter++ {
		block := stream.Block(api.Key(row[16:]), counter, nonce)
		message = append(message, block[:]...)
	}
	return api.Drop(row[:16]), message[:size]
}

func checkIdle(t *testing.T, seed api.Key, round uint64, size int) (api.Drop, []byte) {
	t.Helper()
	drop, message, err := Idle(seed, round, size)
	wantDrop, want := idleOf(seed, round, size)
	checkBytes(t, "Idle's dead drop", drop[:], err, wantDrop[:])
	checkBytes(t, "Idle's message", message, err, want)
	return drop, message
}

// P21.5
func TestIdle(t *testing.T) {
	for size := 32; size <= 512; size++ {
		checkIdle(t, drawnKey(1), 7, size)
	}
	for _, seed := range owns() {
		for _, round := range rounds() {
			for _, size := range []int{32, 33, 64, 65, 511, 512} {
				checkIdle(t, seed, round, size)
			}
		}
	}
}

// P21.5
func TestIdleOfAWrongSize(t *testing.T) {
	for _, size := range wrongSizes() {
		for _, seed := range owns() {
			drop, message, err := Idle(seed, 7, size)
			checkRefused(t, "Idle of a wrong size", message, err, api.ErrLength)
			if drop != (api.Drop{}) {
				t.Fatalf("Idle of the size %d = %x", size, drop)
			}
		}
	}
}

// P21.5: each bit of the seed and of the round counts for the dead drop and for the message.
func TestBitsOfIdle(t *testing.T) {
	seed := drawnKey(1)
	drop, message := checkIdle(t, seed, 7, 32)
	unlike := func(what string, d api.Drop, m []byte) {
		t.Helper()
		apart := 0
		for i, b := range m {
			apart += bits.OnesCount8(b ^ message[i])
		}
		if d == drop || apart < 64 {
			t.Fatalf("%s: %x, %x", what, d, m)
		}
	}
	for bit := range 64 {
		d, m := checkIdle(t, seed, 7^1<<bit, 32)
		unlike("another round", d, m)
	}
	for bit := range 256 {
		other := seed
		other[bit/8] ^= 1 << (bit % 8)
		d, m := checkIdle(t, other, 7, 32)
		unlike("another seed", d, m)
	}
}

// P21.5, P21.7: what somebody sends who has nobody to meet is as long as what all others send, and nobody unboxes it.
func TestIdleIsLikeABox(t *testing.T) {
	m := drawnMeeting(1)
	for _, size := range []int{32, 100, 512} {
		_, message := checkIdle(t, drawnKey(1), 7, size)
		if box := boxed(t, m, 7, size, []byte("hello")); len(box) != len(message) {
			t.Errorf("%d bytes of nobody, %d of a box", len(message), len(box))
		}
		text, err := Unbox(m, 7, message)
		checkRefused(t, "Unbox of what is nobody's", text, err, api.ErrTag)
	}
}
