package codec

import (
	"bytes"
	"testing"

	"tryst/api"
)

// of is n bytes of one value.
func of(n int, v byte) []byte { return bytes.Repeat([]byte{v}, n) }

// The chapter's table of examples, row by row.

// P20.1
func TestExamplesOfConfigs(t *testing.T) {
	if err := Check(exampleConfig()); err != api.OK {
		t.Errorf("Check(C): %d", err)
	}
	text, message, window, batch := exampleConfig(), exampleConfig(), exampleConfig(), exampleConfig()
	text.Text = 113
	message.Message = 31
	window.Window = 17
	batch.Batch = 257
	for _, c := range []api.Config{text, message, window, batch} {
		if err := Check(c); err != api.ErrConfig {
			t.Errorf("Check(%v): %d", c, err)
		}
	}
	b, err := PutConfig(exampleConfig())
	if err != api.OK || len(b) != 24 || !bytes.Equal(b[:8], []byte{4, 0, 0, 0, 32, 0, 0, 0}) {
		t.Errorf("PutConfig(C) = % x, %d", b, err)
	}
}

// P20.2
func TestExamplesOfSizes(t *testing.T) {
	size, err := RequestSize(exampleConfig(), api.KindTalk)
	checkNumber(t, "RequestSize of a talk round", size, err, 48)
	size, err = RequestSize(exampleConfig(), api.KindDial)
	checkNumber(t, "RequestSize of a dial round", size, err, 92)
	size, err = RequestSize(exampleConfig(), 3)
	checkNoNumber(t, "RequestSize of no kind", size, err, api.ErrKind)
	size, err = ReplySize(exampleConfig(), api.KindTalk)
	checkNumber(t, "ReplySize of a talk round", size, err, 33)
	size, err = ReplySize(exampleConfig(), api.KindDial)
	checkNumber(t, "ReplySize of a dial round", size, err, 16)
}

// P20.3
func TestExamplesOfPages(t *testing.T) {
	pages, err := Pages(exampleConfig(), api.KindTalk, 3)
	checkNumber(t, "Pages of three", pages, err, 5)
	pages, err = Pages(exampleConfig(), api.KindDial, 4)
	checkNumber(t, "Pages of four in a dial round", pages, err, 6)
	pages, err = Pages(exampleConfig(), api.KindTalk, 0)
	checkNumber(t, "Pages of none", pages, err, 0)
	pages, err = Pages(exampleConfig(), api.KindTalk, 5)
	checkNoNumber(t, "Pages of too many", pages, err, api.ErrBatch)
	pages, err = Pages(exampleConfig(), api.KindTalk, -1)
	checkNoNumber(t, "Pages of fewer than none", pages, err, api.ErrArg)
}

// P20.5
func TestExamplesOfReplies(t *testing.T) {
	b, err := TalkReply(exampleConfig(), false, of(32, 7))
	checkBytes(t, "TalkReply of nobody", b, err, of(33, 0))
	b, err = TalkReply(exampleConfig(), true, of(32, 7))
	checkBytes(t, "TalkReply of somebody", b, err, join([]byte{1}, of(32, 7)))
	checkNoReply(t, exampleConfig(), join([]byte{2}, of(32, 7)), api.ErrReply)
	checkNoReply(t, exampleConfig(), join([]byte{0}, of(32, 7)), api.ErrReply)
	checkNoReply(t, exampleConfig(), of(32, 0), api.ErrLength)
}

// P20.6
func TestExamplesOfDialRequests(t *testing.T) {
	b, err := DialRequest(exampleConfig(), 2, of(88, 1))
	checkBytes(t, "DialRequest", b, err, join([]byte{2, 0, 0, 0}, of(88, 1)))
	b, err = DialRequest(exampleConfig(), 3, of(88, 1))
	checkRefused(t, "DialRequest of no bucket", b, err, api.ErrBucket)
	b, err = DialRequest(exampleConfig(), 0, of(87, 1))
	checkRefused(t, "DialRequest of 87 bytes", b, err, api.ErrLength)
}

// P20.7
func TestExamplesOfFrames(t *testing.T) {
	b, err := Frame(2, nil)
	checkBytes(t, "Frame of none", b, err, []byte{2, 0, 0, 0, 0, 0, 0, 0})
	b, err = Frame(0, nil)
	checkRefused(t, "Frame of the bucket 0", b, err, api.ErrBucket)
	b, err = Frame(64, nil)
	checkRefused(t, "Frame of the bucket 64", b, err, api.ErrBucket)
	b, err = Frame(1, drawnInvites(1, 257))
	checkRefused(t, "Frame of 257", b, err, api.ErrLong)
	one := join([]byte{2, 0, 0, 0, 1, 0, 0, 0}, of(88, 5))
	checkFrame(t, one, 2, [][]byte{of(88, 5)})
	checkNoFrame(t, join(one, []byte{5}))
	checkNoFrame(t, nil)
}

// P20.7
func TestAck(t *testing.T) {
	want := []byte{116, 114, 121, 115, 116, 58, 32, 114, 117, 110, 103, 44, 32, 111, 107, 46}
	checkBytes(t, "Ack", Ack(), api.OK, want)
	if len(want) != api.AckSize {
		t.Fatalf("%d bytes", len(want))
	}
}
