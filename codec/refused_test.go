package codec

import (
	"math"
	"testing"

	"tryst/api"
)

// P20.1 to P20.6, R2: a config that is not good comes ahead of all else that is wrong, and of what is right.
func TestBadConfigsComeFirst(t *testing.T) {
	for _, c := range badConfigs(t) {
		if err := Check(c); err != api.ErrConfig {
			t.Fatalf("Check(%v): %d", c, err)
		}
		b, err := PutConfig(c)
		checkRefused(t, "PutConfig", b, err, api.ErrConfig)
		for _, kind := range []int{api.KindTalk, api.KindDial, 0, 3, -1} {
			size, err := RequestSize(c, kind)
			checkNoNumber(t, "RequestSize", size, err, api.ErrConfig)
			size, err = ReplySize(c, kind)
			checkNoNumber(t, "ReplySize", size, err, api.ErrConfig)
			for _, n := range []int{-1, 0, 1, 5, math.MaxInt} {
				pages, err := Pages(c, kind, n)
				checkNoNumber(t, "Pages", pages, err, api.ErrConfig)
			}
		}
		for _, length := range []int{0, 16, 32, 33, 48, 88, 92, 512} {
			checkAllRefuse(t, c, drawn(1, length))
		}
		checkAllRefuse(t, c, nil)
	}
}

func checkAllRefuse(t *testing.T, c api.Config, list []byte) {
	t.Helper()
	b, err := TalkRequest(c, drawnDrop(1), list)
	checkRefused(t, "TalkRequest", b, err, api.ErrConfig)
	for _, there := range []bool{true, false} {
		b, err = TalkReply(c, there, list)
		checkRefused(t, "TalkReply", b, err, api.ErrConfig)
	}
	for _, bucket := range []int{-1, 0, 1, 64, math.MaxInt} {
		b, err = DialRequest(c, bucket, list)
		checkRefused(t, "DialRequest", b, err, api.ErrConfig)
	}
	checkNoTalk(t, c, list, api.ErrConfig)
	checkNoReply(t, c, list, api.ErrConfig)
	checkNoDial(t, c, list, api.ErrConfig)
}

// P20.4 to P20.6, R1: a message of any length is held to the config's, and to no other one's.
func TestLengthsAreThoseOfTheConfig(t *testing.T) {
	for _, c := range goodConfigs() {
		for _, other := range goodConfigs() {
			if c.Message == other.Message {
				continue
			}
			b, err := TalkRequest(c, drawnDrop(1), drawn(1, other.Message))
			checkRefused(t, "TalkRequest", b, err, api.ErrLength)
			b, err = TalkReply(c, true, drawn(1, other.Message))
			checkRefused(t, "TalkReply", b, err, api.ErrLength)
			checkNoTalk(t, c, drawn(1, 16+other.Message), api.ErrLength)
			checkNoReply(t, c, drawnWith(1, 1+other.Message, 1), api.ErrLength)
		}
	}
}
