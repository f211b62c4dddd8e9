package codec

import (
	"math"
	"testing"

	"tryst/api"
)

// noKinds are below the two, between nothing, and above.
func noKinds() []int { return []int{0, 3, 4, -1, -2, 257, 258, 1<<32 + 1, math.MinInt, math.MaxInt} }

// P20.2: 16 and the message, 4 and the invitation; 1 and the message, the acknowledgement.
func TestSizes(t *testing.T) {
	for _, c := range goodConfigs() {
		size, err := RequestSize(c, api.KindTalk)
		checkNumber(t, "RequestSize of a talk round", size, err, 16+c.Message)
		size, err = RequestSize(c, api.KindDial)
		checkNumber(t, "RequestSize of a dial round", size, err, 92)
		size, err = ReplySize(c, api.KindTalk)
		checkNumber(t, "ReplySize of a talk round", size, err, 1+c.Message)
		size, err = ReplySize(c, api.KindDial)
		checkNumber(t, "ReplySize of a dial round", size, err, 16)
		for _, kind := range noKinds() {
			size, err = RequestSize(c, kind)
			checkNoNumber(t, "RequestSize of no kind", size, err, api.ErrKind)
			size, err = ReplySize(c, kind)
			checkNoNumber(t, "ReplySize of no kind", size, err, api.ErrKind)
		}
	}
}

// P20.2: sizes are those of what the other calls lay.
func TestSizesAreThoseOfWhatIsLaid(t *testing.T) {
	for _, c := range goodConfigs() {
		requestSize, _ := RequestSize(c, api.KindTalk)
		request, _ := TalkRequest(c, drawnDrop(1), drawn(2, c.Message))
		replySize, _ := ReplySize(c, api.KindTalk)
		reply, _ := TalkReply(c, true, drawn(3, c.Message))
		dialSize, _ := RequestSize(c, api.KindDial)
		dial, _ := DialRequest(c, 1, drawn(4, 88))
		ackSize, _ := ReplySize(c, api.KindDial)
		if len(request) != requestSize || len(reply) != replySize || len(dial) != dialSize || len(Ack()) != ackSize {
			t.Fatalf("%v: %d of %d, %d of %d, %d of %d, %d of %d", c, len(request), requestSize, len(reply), replySize, len(dial), dialSize, len(Ack()), ackSize)
		}
	}
}

// P20.3: all numbers of requests that a round may have, and those around them.
func TestPages(t *testing.T) {
	for _, c := range goodConfigs() {
		for _, kind := range []int{api.KindTalk, api.KindDial} {
			for n := 0; n <= c.Batch; n++ {
				pages, err := Pages(c, kind, n)
				checkNumber(t, "Pages", pages, err, pagesOfRound(c, kind, n))
			}
			for _, n := range []int{-1, -2, -c.Batch, math.MinInt} {
				pages, err := Pages(c, kind, n)
				checkNoNumber(t, "Pages of fewer than none", pages, err, api.ErrArg)
			}
			for _, n := range []int{c.Batch + 1, c.Batch + 2, 257, 65536, 65537, 1<<32 + 1, math.MaxInt} {
				pages, err := Pages(c, kind, n)
				checkNoNumber(t, "Pages of too many", pages, err, api.ErrBatch)
			}
		}
	}
}

// P20.3: both parts, in numbers written out: records of 58 bytes (70 to a page), or of 114 (35 to a page), beside keys (128 to a page).
func TestPagesOfBothParts(t *testing.T) {
	c := api.Config{Batch: 256, Message: 32, Buckets: 2, Text: 4096, Window: 2, Workers: 1}
	for _, x := range []struct{ kind, n, want int }{
		{api.KindTalk, 1, 1 + 1}, {api.KindTalk, 64, 1 + 1}, {api.KindTalk, 65, 2 + 1},
		{api.KindTalk, 128, 2 + 1}, {api.KindTalk, 129, 4 + 2}, {api.KindTalk, 256, 4 + 2},
		{api.KindDial, 32, 1 + 1}, {api.KindDial, 33, 2 + 1}, {api.KindDial, 65, 4 + 1},
		{api.KindDial, 129, 8 + 2}, {api.KindDial, 256, 8 + 2},
	} {
		pages, err := Pages(c, x.kind, x.n)
		checkNumber(t, "Pages", pages, err, x.want)
	}
}

// P20.3: which error comes first.
func TestErrorsOfPages(t *testing.T) {
	for _, c := range goodConfigs() {
		for _, kind := range noKinds() {
			for _, n := range []int{-1, 0, 1, c.Batch, c.Batch + 1, math.MinInt, math.MaxInt} {
				pages, err := Pages(c, kind, n)
				checkNoNumber(t, "Pages of no kind", pages, err, api.ErrKind)
			}
		}
	}
}
