package codec

import (
	"encoding/binary"
	"math"
	"testing"

	"tryst/api"
)

// P20.6: each bucket, the one that nobody looks into too.
func TestDialRequest(t *testing.T) {
	for _, c := range goodConfigs() {
		for bucket := range c.Buckets {
			invite := drawn(bucket, 88)
			b, err := DialRequest(c, bucket, invite)
			checkBytes(t, "DialRequest", b, err, dialBytes(bucket, invite))
			checkDial(t, c, b, bucket, invite)
			b, err = DialRequest(c, bucket, make([]byte, 88))
			checkBytes(t, "DialRequest of bytes 0", b, err, dialBytes(bucket, make([]byte, 88)))
			checkDial(t, c, b, bucket, make([]byte, 88))
		}
	}
}

// P20.6: buckets that there are not come ahead of lengths.
func TestDialRequestOfOtherBuckets(t *testing.T) {
	for _, c := range goodConfigs() {
		for _, bucket := range []int{-1, -2, -c.Buckets, c.Buckets, c.Buckets + 1, 256, 65, 1 << 32, 1<<32 + 1, -1<<32 + 1, math.MinInt, math.MaxInt} {
			for _, length := range []int{88, 0, 87, 89} {
				b, err := DialRequest(c, bucket, drawn(1, length))
				checkRefused(t, "DialRequest of no bucket", b, err, api.ErrBucket)
			}
		}
	}
}

// P20.6: of other lengths nothing is made, nor read; the length comes ahead of the bucket when one is read.
func TestDialRequestsOfOtherLengths(t *testing.T) {
	for _, c := range goodConfigs() {
		for _, length := range otherLengths(88) {
			b, err := DialRequest(c, 1, drawn(1, length))
			checkRefused(t, "DialRequest", b, err, api.ErrLength)
		}
		b, err := DialRequest(c, 0, nil)
		checkRefused(t, "DialRequest of none", b, err, api.ErrLength)
		for _, length := range append(otherLengths(92), 3, 4, 5, 88) {
			checkNoDial(t, c, make([]byte, length), api.ErrLength)
			checkNoDial(t, c, of(length, 255), api.ErrLength)
		}
		checkNoDial(t, c, nil, api.ErrLength)
	}
}

// P20.6: all four bytes of the bucket count.
func TestParseDialOfAnyBucket(t *testing.T) {
	for _, c := range goodConfigs() {
		numbers := []uint32{0, 1, uint32(c.Buckets) - 1, uint32(c.Buckets), uint32(c.Buckets) + 1, 63, 64, 65, 255, 256, 257, 1 << 16, 1<<16 + 1, 1 << 24, 1<<24 + 1, math.MaxInt32, 1 << 31, 1<<31 + 1, math.MaxUint32 - 1, math.MaxUint32}
		for _, number := range numbers {
			b := join(binary.LittleEndian.AppendUint32(nil, number), drawn(5, 88))
			if number < uint32(c.Buckets) {
				checkDial(t, c, b, int(number), drawn(5, 88))
			} else {
				checkNoDial(t, c, b, api.ErrBucket)
			}
		}
	}
}
