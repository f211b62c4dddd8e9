package codec

import (
	"encoding/binary"
	"math"
	"slices"
	"testing"

	"tryst/api"
)

// P20.7: each bucket, of no invitations, of some, of as many as there may be.
func TestFrame(t *testing.T) {
	for bucket := 1; bucket < 64; bucket++ {
		for _, n := range []int{0, 1, 2, bucket, 255, 256} {
			invites := drawnInvites(bucket, n)
			b, err := Frame(bucket, invites)
			checkBytes(t, "Frame", b, err, frameBytes(bucket, invites))
			checkFrame(t, b, bucket, invites)
		}
	}
}

// P20.7, R4: no invitations are none, nil or empty.
func TestFrameOfNone(t *testing.T) {
	for _, invites := range [][][]byte{nil, {}, drawnInvites(1, 3)[:0]} {
		b, err := Frame(63, invites)
		checkBytes(t, "Frame", b, err, []byte{63, 0, 0, 0, 0, 0, 0, 0})
		checkFrame(t, b, 63, nil)
	}
}

// P20.7: which error comes first: that of the bucket, of how many invitations there are, of one of them.
func TestErrorsOfFrame(t *testing.T) {
	short, long := drawnInvites(1, 3), drawnInvites(1, 3)
	short[2] = short[2][:87]
	long[0] = append(long[0], 0)
	none, empty := drawnInvites(1, 3), [][]byte{{}}
	none[1] = nil
	last := drawnInvites(1, 256)
	last[255] = last[255][:87]
	tooMany := drawnInvites(1, 257)
	alsoShort := drawnInvites(1, 257)
	alsoShort[0] = nil
	for _, bucket := range []int{0, -1, 64, 65, 256, 257, 1<<32 + 1, -1<<32 + 1, math.MinInt, math.MaxInt} {
		for _, invites := range [][][]byte{nil, drawnInvites(1, 2), short, long, tooMany, alsoShort} {
			b, err := Frame(bucket, invites)
			checkRefused(t, "Frame of no bucket", b, err, api.ErrBucket)
		}
	}
	for _, bucket := range []int{1, 2, 63} {
		for _, invites := range [][][]byte{tooMany, alsoShort, slices.Repeat(tooMany, 10)} {
			b, err := Frame(bucket, invites)
			checkRefused(t, "Frame of too many", b, err, api.ErrLong)
		}
		for _, invites := range [][][]byte{short, long, none, empty, last} {
			b, err := Frame(bucket, invites)
			checkRefused(t, "Frame of another length", b, err, api.ErrLength)
		}
	}
}

// P20.7: a frame that is cut off anywhere, or has anything behind it, is none.
func TestParseFrameOfOtherLengths(t *testing.T) {
	for _, n := range []int{0, 1, 2, 3} {
		whole := frameBytes(7, drawnInvites(n, n))
		for length := range len(whole) {
			checkNoFrame(t, whole[:length])
		}
		for _, more := range []int{1, 2, 4, 8, 87, 88, 89, 96, 176, 88 * 256} {
			checkNoFrame(t, join(whole, drawn(1, more)))
			checkNoFrame(t, join(whole, make([]byte, more)))
		}
		checkFrame(t, whole, 7, drawnInvites(n, n))
	}
	greatest := frameBytes(7, drawnInvites(9, 256))
	checkFrame(t, greatest, 7, drawnInvites(9, 256))
	checkNoFrame(t, greatest[:len(greatest)-1])
	checkNoFrame(t, join(greatest, []byte{0}))
}

// P20.7: one invitation too many is no frame, and none is so many more.
func TestParseFrameOfTooMany(t *testing.T) {
	for _, n := range []int{257, 258, 512, 513, 1000} {
		b := frameBytes(1, drawnInvites(2, n))
		checkNoFrame(t, b)
		for _, told := range []int{0, 1, 255, 256} {
			binary.LittleEndian.PutUint32(b[4:], uint32(told))
			checkNoFrame(t, b)
		}
	}
	checkNoFrame(t, make([]byte, 1<<24))
	checkNoFrame(t, of(1<<24, 1))
}

// P20.7: all four bytes of the number of invitations count.
func TestParseFrameOfOtherNumbers(t *testing.T) {
	for _, n := range []int{0, 1, 2, 255, 256} {
		invites := drawnInvites(n, n)
		for _, number := range []uint32{0, 1, 2, 3, 254, 255, 256, 257, uint32(n) + 1, uint32(n) - 1, uint32(n) + 256, uint32(n) + 1<<16, uint32(n) + 1<<24, uint32(n) + 1<<31, 1 << 31, math.MaxUint32} {
			b := frameBytes(5, invites)
			binary.LittleEndian.PutUint32(b[4:], number)
			if number == uint32(n) {
				checkFrame(t, b, 5, invites)
			} else {
				checkNoFrame(t, b)
			}
		}
	}
}

// P20.7: all four bytes of the bucket count; 0 is none, nor is what no config has.
func TestParseFrameOfAnyBucket(t *testing.T) {
	numbers := []uint32{0, 1, 2, 62, 63, 64, 65, 128, 255, 256, 257, 1 << 16, 1<<16 + 1, 1 << 24, 1<<24 + 1, math.MaxInt32, 1 << 31, 1<<31 + 1, math.MaxUint32 - 1, math.MaxUint32}
	for _, n := range []int{0, 1, 3} {
		invites := drawnInvites(n, n)
		for _, number := range numbers {
			b := frameBytes(5, invites)
			binary.LittleEndian.PutUint32(b, number)
			if number >= 1 && number <= 63 {
				checkFrame(t, b, int(number), invites)
			} else {
				checkNoFrame(t, b)
			}
		}
	}
}
