package codec

import (
	"testing"

	"tryst/api"
)

// otherLengths are those around a length, and none, and long ones.
func otherLengths(size int) []int {
	return []int{0, 1, 15, 16, 17, size - 2, size - 1, size + 1, size + 2, 2 * size, size + 256, size + 65536}
}

// P20.4: the dead drop, and the message behind it.
func TestTalkRequest(t *testing.T) {
	for _, c := range goodConfigs() {
		for seed := range 20 {
			d, message := drawnDrop(seed), drawn(seed+100, c.Message)
			b, err := TalkRequest(c, d, message)
			checkBytes(t, "TalkRequest", b, err, talkBytes(d, message))
			checkTalk(t, c, b, d, message)
		}
		b, err := TalkRequest(c, api.Drop{}, make([]byte, c.Message))
		checkBytes(t, "TalkRequest of bytes 0", b, err, make([]byte, 16+c.Message))
		checkTalk(t, c, b, api.Drop{}, make([]byte, c.Message))
	}
}

// P20.4: of other lengths nothing is made, nor read.
func TestTalkRequestsOfOtherLengths(t *testing.T) {
	for _, c := range goodConfigs() {
		for _, length := range otherLengths(c.Message) {
			if length == c.Message {
				continue
			}
			b, err := TalkRequest(c, drawnDrop(1), drawn(2, length))
			checkRefused(t, "TalkRequest", b, err, api.ErrLength)
		}
		for _, length := range append(otherLengths(16+c.Message), c.Message) {
			checkNoTalk(t, c, drawn(3, length), api.ErrLength)
		}
		b, err := TalkRequest(c, drawnDrop(1), nil)
		checkRefused(t, "TalkRequest of none", b, err, api.ErrLength)
		checkNoTalk(t, c, nil, api.ErrLength)
	}
}

// P20.4: whatever as many bytes are, they are a request.
func TestParseTalkOfAnyBytes(t *testing.T) {
	c := exampleConfig()
	for i := range 48 {
		for v := range 256 {
			b := make([]byte, 48)
			b[i] = byte(v)
			checkTalk(t, c, b, api.Drop(b[:16]), b[16:])
		}
	}
}

// P20.5: of nobody bytes 0, whatever the message is.
func TestTalkReply(t *testing.T) {
	for _, c := range goodConfigs() {
		for seed := range 20 {
			message := drawn(seed, c.Message)
			b, err := TalkReply(c, true, message)
			checkBytes(t, "TalkReply of somebody", b, err, replyBytes(true, message))
			checkReply(t, c, b, true, message)
			b, err = TalkReply(c, false, message)
			checkBytes(t, "TalkReply of nobody", b, err, replyBytes(false, message))
			checkReply(t, c, b, false, make([]byte, c.Message))
		}
		b, err := TalkReply(c, true, make([]byte, c.Message))
		checkBytes(t, "TalkReply of bytes 0", b, err, replyBytes(true, make([]byte, c.Message)))
		checkReply(t, c, b, true, make([]byte, c.Message))
	}
}

// P20.5: the message has to be as long as any, be there somebody or not.
func TestRepliesOfOtherLengths(t *testing.T) {
	for _, c := range goodConfigs() {
		for _, there := range []bool{true, false} {
			for _, length := range otherLengths(c.Message) {
				b, err := TalkReply(c, there, drawn(2, length))
				checkRefused(t, "TalkReply", b, err, api.ErrLength)
			}
			b, err := TalkReply(c, there, nil)
			checkRefused(t, "TalkReply of none", b, err, api.ErrLength)
		}
		for _, first := range []byte{0, 1, 2} {
			for _, length := range append(otherLengths(1+c.Message), c.Message) {
				if length > 0 {
					checkNoReply(t, c, append([]byte{first}, make([]byte, length-1)...), api.ErrLength)
					checkNoReply(t, c, append([]byte{first}, drawn(4, length-1)...), api.ErrLength)
				}
			}
		}
		checkNoReply(t, c, nil, api.ErrLength)
	}
}

// P20.5: just 0 and 1 may stand ahead, and behind a 0 nothing but bytes 0.
func TestParseReplyOfAnyBytes(t *testing.T) {
	for _, c := range goodConfigs() {
		for first := range 256 {
			for _, message := range [][]byte{make([]byte, c.Message), drawn(first, c.Message), of(c.Message, 1)} {
				b := join([]byte{byte(first)}, message)
				if isReply(b) {
					checkReply(t, c, b, first == 1, message)
				} else {
					checkNoReply(t, c, b, api.ErrReply)
				}
			}
		}
		for i := range c.Message {
			for _, v := range []byte{1, 2, 128, 255} {
				b := make([]byte, 1+c.Message)
				b[1+i] = v
				checkNoReply(t, c, b, api.ErrReply)
				b[0] = 1
				checkReply(t, c, b, true, b[1:])
			}
		}
	}
}
