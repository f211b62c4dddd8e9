package codec

import (
	"bytes"
	"encoding/binary"
	"math"
	"testing"

	"tryst/api"
)

// What the document says, in plain words of its own.

// isGood holds a config to the numbers of DOC.md, Sizes and limits.
func isGood(c api.Config) bool {
	for _, x := range [][3]int{
		{1, c.Batch, 256}, {32, c.Message, 512}, {2, c.Buckets, 64}, {2, c.Window, 16}, {1, c.Workers, 16},
		{26 + 88, c.Text, 4096},
	} {
		if x[1] < x[0] || x[1] > x[2] {
			return false
		}
	}
	return c.Text-26 >= c.Message
}

func le4(n int) []byte { return binary.LittleEndian.AppendUint32(nil, uint32(n)) }

func join(parts ...[]byte) []byte { return bytes.Join(parts, nil) }

func configBytes(c api.Config) []byte {
	return join(le4(c.Batch), le4(c.Message), le4(c.Buckets), le4(c.Text), le4(c.Window), le4(c.Workers))
}

func talkBytes(d api.Drop, message []byte) []byte { return join(d[:], message) }

func replyBytes(there bool, message []byte) []byte {
	if there {
		return join([]byte{1}, message)
	}
	return make([]byte, 1+len(message))
}

func dialBytes(bucket int, invite []byte) []byte { return join(le4(bucket), invite) }

func frameBytes(bucket int, invites [][]byte) []byte {
	return join(le4(bucket), le4(len(invites)), join(invites...))
}

// isReply holds bytes to the chapter's words about ParseReply; they are as many as a reply has.
func isReply(b []byte) bool {
	for _, x := range b[1:] {
		if b[0] == 0 && x != 0 {
			return false
		}
	}
	return b[0] <= 1
}

// pagesOf lays so many slots down, one by one; none lies on two pages.
func pagesOf(n, size, text int) int {
	pages, left := 0, 0
	for range n {
		if left < size {
			pages++
			left = text
		}
		left -= size
	}
	return pages
}

// pagesOfRound are those of the records, N for n requests, and those of the keys.
func pagesOfRound(c api.Config, kind, n int) int {
	padded := 0
	if n > 0 {
		for padded = 1; padded < n; padded *= 2 {
		}
	}
	body := c.Message
	if kind == api.KindDial {
		body = 88
	}
	return pagesOf(padded, 26+body, c.Text) + pagesOf(n, 32, c.Text)
}

// exampleConfig is the chapter's C.
func exampleConfig() api.Config {
	return api.Config{Batch: 4, Message: 32, Buckets: 3, Text: 114, Window: 2, Workers: 1}
}

// goodConfigs are small ones, great ones, and some whose Text is just as long as it has to be: for an invitation, for a message.
func goodConfigs() []api.Config {
	return []api.Config{
		exampleConfig(),
		{Batch: 1, Message: 32, Buckets: 2, Text: 114, Window: 2, Workers: 1},
		{Batch: 256, Message: 512, Buckets: 64, Text: 4096, Window: 16, Workers: 16},
		{Batch: 256, Message: 512, Buckets: 64, Text: 538, Window: 16, Workers: 16},
		{Batch: 100, Message: 87, Buckets: 17, Text: 114, Window: 3, Workers: 2},
		{Batch: 255, Message: 88, Buckets: 17, Text: 114, Window: 3, Workers: 2},
		{Batch: 129, Message: 89, Buckets: 17, Text: 115, Window: 3, Workers: 2},
		{Batch: 33, Message: 300, Buckets: 40, Text: 777, Window: 7, Workers: 15},
	}
}

// edgesOf are the numbers around those that one of a config may be, and those that are no number of its kind at all, or look like one in their lower four bytes.
func edgesOf(lowest, highest int) []int {
	return []int{
		lowest - 1, lowest, lowest + 1, highest - 1, highest, highest + 1,
		0, 1, -1, -lowest, -highest, math.MinInt, math.MaxInt, math.MinInt + 1, math.MaxInt - 1,
		1<<32 + lowest, 1<<32 + highest, -1<<32 + lowest, 1 << 31, 1<<32 - 1, 1<<63 - 26, 1<<63 - 114,
	}
}

// withEdges are all configs of which one number is put to one of its edges.
func withEdges(base api.Config) []api.Config {
	var all []api.Config
	change := func(lowest, highest int, put func(c *api.Config, n int)) {
		for _, n := range edgesOf(lowest, highest) {
			c := base
			put(&c, n)
			all = append(all, c)
		}
	}
	change(1, 256, func(c *api.Config, n int) { c.Batch = n })
	change(32, 512, func(c *api.Config, n int) { c.Message = n })
	change(base.Text-26, 512, func(c *api.Config, n int) { c.Message = n })
	change(2, 64, func(c *api.Config, n int) { c.Buckets = n })
	change(114, 4096, func(c *api.Config, n int) { c.Text = n })
	change(base.Message+26, 4096, func(c *api.Config, n int) { c.Text = n })
	change(2, 16, func(c *api.Config, n int) { c.Window = n })
	change(1, 16, func(c *api.Config, n int) { c.Workers = n })
	return all
}

// badConfigs has of each number one that is too low and one that is too high, alone and together with others.
func badConfigs(t *testing.T) []api.Config {
	t.Helper()
	bad := []api.Config{{}, {Batch: -1, Message: -1, Buckets: -1, Text: -1, Window: -1, Workers: -1}}
	for _, base := range goodConfigs() {
		for _, c := range withEdges(base) {
			if !isGood(c) {
				bad = append(bad, c)
			}
		}
	}
	if len(bad) < 8*6*2 {
		t.Fatalf("only %d bad configs", len(bad))
	}
	return bad
}

// drawn are bytes of which no two pieces are alike, and none of which is 0.
func drawn(seed, n int) []byte {
	b := make([]byte, n)
	state := uint32(seed)*2654435761 + 12345
	for i := range b {
		state = state*1664525 + 1013904223
		b[i] = byte(state>>24) | 1
	}
	return b
}

func drawnDrop(seed int) api.Drop { return api.Drop(drawn(seed, 16)) }

func drawnInvites(seed, n int) [][]byte {
	var invites [][]byte
	for i := range n {
		invites = append(invites, drawn(seed+i, 88))
	}
	return invites
}

func checkBytes(t *testing.T, what string, got []byte, err api.Errno, want []byte) {
	t.Helper()
	if err != api.OK || !bytes.Equal(got, want) {
		t.Fatalf("%s = % x, %d, want % x", what, got, err, want)
	}
}

// checkRefused holds what is answered to an error and nothing else.
func checkRefused(t *testing.T, what string, got []byte, err, want api.Errno) {
	t.Helper()
	if err != want || len(got) > 0 {
		t.Fatalf("%s = % x, %d, want the error %d", what, got, err, want)
	}
}

func checkNumber(t *testing.T, what string, got int, err api.Errno, want int) {
	t.Helper()
	if err != api.OK || got != want {
		t.Fatalf("%s = %d, %d, want %d", what, got, err, want)
	}
}

func checkNoNumber(t *testing.T, what string, got int, err, want api.Errno) {
	t.Helper()
	if err != want || got != 0 {
		t.Fatalf("%s = %d, %d, want the error %d", what, got, err, want)
	}
}
