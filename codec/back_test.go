package codec

import (
	"bytes"
	"testing"

	"tryst/api"
)

// What is read, laid once more, gives the bytes that were read: tried with bytes that nothing has laid, most of which are not taken.

// drawnWith are drawn bytes behind those that stand ahead.
func drawnWith(seed, n int, ahead ...byte) []byte {
	b := drawn(seed, n)
	copy(b, ahead)
	return b
}

// P20.8
func TestConfigsThereAndBack(t *testing.T) {
	taken := 0
	for seed := range 2000 {
		b := make([]byte, 24)
		noise := drawn(seed, 8)
		copy(b, []byte{noise[0], 0, 0, 0, noise[1], noise[2] & 1, 0, 0, noise[3] >> 2, 0, 0, 0, noise[4], noise[5] >> 4, 0, 0, noise[6] >> 4, 0, 0, 0, noise[7] >> 4})
		c, err := ParseConfig(b)
		if err != api.OK {
			continue
		}
		taken++
		again, err := PutConfig(c)
		checkBytes(t, "PutConfig of what was parsed", again, err, b)
	}
	if taken < 100 {
		t.Fatalf("only %d configs", taken)
	}
}

// P20.8
func TestTalkThereAndBack(t *testing.T) {
	for _, c := range goodConfigs() {
		for seed := range 20 {
			b := drawn(seed, 16+c.Message)
			d, message, err := ParseTalk(c, b)
			if err != api.OK {
				t.Fatalf("ParseTalk: %d", err)
			}
			again, err := TalkRequest(c, d, message)
			checkBytes(t, "TalkRequest of what was parsed", again, err, b)
		}
		for _, b := range [][]byte{drawnWith(1, 1+c.Message, 1), of(1+c.Message, 1), make([]byte, 1+c.Message), drawnWith(2, 1+c.Message, 1, 0, 0)} {
			there, message, err := ParseReply(c, b)
			if err != api.OK || there != (b[0] == 1) {
				t.Fatalf("ParseReply: %v, %d", there, err)
			}
			again, err := TalkReply(c, there, message)
			checkBytes(t, "TalkReply of what was parsed", again, err, b)
		}
	}
}

// P20.8
func TestDialThereAndBack(t *testing.T) {
	for _, c := range goodConfigs() {
		for bucket := range c.Buckets {
			b := drawnWith(bucket, 92, byte(bucket), 0, 0, 0)
			told, invite, err := ParseDial(c, b)
			if err != api.OK {
				t.Fatalf("ParseDial: %d", err)
			}
			again, err := DialRequest(c, told, invite)
			checkBytes(t, "DialRequest of what was parsed", again, err, b)
		}
	}
}

// P20.8
func TestFramesThereAndBack(t *testing.T) {
	for bucket := 1; bucket < 64; bucket++ {
		for _, n := range []int{0, 1, bucket, 255} {
			b := drawnWith(bucket, 8+88*n, byte(bucket), 0, 0, 0, byte(n), 0, 0, 0)
			told, invites, err := ParseFrame(b)
			if err != api.OK {
				t.Fatalf("ParseFrame: %d", err)
			}
			again, err := Frame(told, invites)
			checkBytes(t, "Frame of what was parsed", again, err, b)
		}
	}
}

// R6: what a call answers hangs on nothing that was asked before.
func TestAskedAgain(t *testing.T) {
	c := exampleConfig()
	first, _ := TalkRequest(c, drawnDrop(1), drawn(2, 32))
	for range 3 {
		checkNoTalk(t, c, nil, api.ErrLength)
		checkNoFrame(t, nil)
		b, err := Frame(0, nil)
		checkRefused(t, "Frame", b, err, api.ErrBucket)
		again, err := TalkRequest(c, drawnDrop(1), drawn(2, 32))
		checkBytes(t, "TalkRequest", again, err, first)
		if !bytes.Equal(Ack(), []byte("tryst: rung, ok.")) {
			t.Fatalf("Ack = % x", Ack())
		}
	}
}
