package codec

import (
	"encoding/binary"
	"math"
	"testing"

	"tryst/api"
)

// P20.1: of each number the edges, by what is around it.
func TestCheck(t *testing.T) {
	for _, base := range goodConfigs() {
		if err := Check(base); err != api.OK || !isGood(base) {
			t.Fatalf("Check(%v): %d", base, err)
		}
		for _, c := range withEdges(base) {
			want := api.ErrConfig
			if isGood(c) {
				want = api.OK
			}
			if err := Check(c); err != want {
				t.Fatalf("Check(%v): %d, want %d", c, err, want)
			}
		}
	}
}

// P20.1: each edge by name, in numbers written out.
func TestCheckAtTheEdges(t *testing.T) {
	great := api.Config{Batch: 256, Message: 512, Buckets: 64, Text: 4096, Window: 16, Workers: 16}
	small := api.Config{Batch: 1, Message: 32, Buckets: 2, Text: 114, Window: 2, Workers: 1}
	for _, c := range []api.Config{great, small} {
		if err := Check(c); err != api.OK {
			t.Errorf("Check(%v): %d", c, err)
		}
	}
	for _, c := range []api.Config{
		{Batch: 257, Message: 512, Buckets: 64, Text: 4096, Window: 16, Workers: 16},
		{Batch: 256, Message: 513, Buckets: 64, Text: 4096, Window: 16, Workers: 16},
		{Batch: 256, Message: 512, Buckets: 65, Text: 4096, Window: 16, Workers: 16},
		{Batch: 256, Message: 512, Buckets: 64, Text: 4097, Window: 16, Workers: 16},
		{Batch: 256, Message: 512, Buckets: 64, Text: 537, Window: 16, Workers: 16},
		{Batch: 256, Message: 512, Buckets: 64, Text: 4096, Window: 17, Workers: 16},
		{Batch: 256, Message: 512, Buckets: 64, Text: 4096, Window: 16, Workers: 17},
		{Batch: 0, Message: 32, Buckets: 2, Text: 114, Window: 2, Workers: 1},
		{Batch: 1, Message: 31, Buckets: 2, Text: 114, Window: 2, Workers: 1},
		{Batch: 1, Message: 32, Buckets: 1, Text: 114, Window: 2, Workers: 1},
		{Batch: 1, Message: 32, Buckets: 2, Text: 113, Window: 2, Workers: 1},
		{Batch: 1, Message: 89, Buckets: 2, Text: 114, Window: 2, Workers: 1},
		{Batch: 1, Message: 32, Buckets: 2, Text: 114, Window: 1, Workers: 1},
		{Batch: 1, Message: 32, Buckets: 2, Text: 114, Window: 2, Workers: 0},
	} {
		if err := Check(c); err != api.ErrConfig {
			t.Errorf("Check(%v): %d", c, err)
		}
	}
}

// P20.1: the bytes of a config, and of what is none nothing.
func TestPutConfig(t *testing.T) {
	for _, c := range goodConfigs() {
		b, err := PutConfig(c)
		checkBytes(t, "PutConfig", b, err, configBytes(c))
		checkConfig(t, b, c)
	}
	for _, c := range badConfigs(t) {
		b, err := PutConfig(c)
		checkRefused(t, "PutConfig", b, err, api.ErrConfig)
	}
	b, err := PutConfig(api.Config{Batch: 256, Message: 258, Buckets: 5, Text: 4096, Window: 6, Workers: 7})
	checkBytes(t, "PutConfig", b, err, []byte{0, 1, 0, 0, 2, 1, 0, 0, 5, 0, 0, 0, 0, 16, 0, 0, 6, 0, 0, 0, 7, 0, 0, 0})
}

// P20.1: the length counts ahead of what stands there.
func TestParseConfigOfOtherLengths(t *testing.T) {
	right, wrong := configBytes(exampleConfig()), make([]byte, 24)
	for _, b := range [][]byte{right, wrong} {
		for length := range 24 {
			checkNoConfig(t, b[:length], api.ErrLength)
		}
		for more := 1; more < 30; more++ {
			checkNoConfig(t, join(b, make([]byte, more)), api.ErrLength)
		}
	}
	checkNoConfig(t, nil, api.ErrLength)
	checkNoConfig(t, wrong, api.ErrConfig)
	checkConfig(t, right, exampleConfig())
}

// P20.1: numbers that a config may not have, and such as don't fit into an int of four bytes, or only look right in their lower ones.
func TestParseConfigOfOtherNumbers(t *testing.T) {
	for _, base := range goodConfigs() {
		for _, c := range withEdges(base) {
			if !fits(c) {
				continue
			}
			if isGood(c) {
				checkConfig(t, configBytes(c), c)
			} else {
				checkNoConfig(t, configBytes(c), api.ErrConfig)
			}
		}
		for part := range 6 {
			for _, high := range []uint32{1 << 8, 1 << 16, 1 << 24, 1 << 31, 0xffff0000} {
				b := configBytes(base)
				low := binary.LittleEndian.Uint32(b[4*part:])
				binary.LittleEndian.PutUint32(b[4*part:], low^high)
				checkWhatever(t, b)
			}
			b := configBytes(base)
			binary.LittleEndian.PutUint32(b[4*part:], math.MaxUint32)
			checkNoConfig(t, b, api.ErrConfig)
		}
	}
}

func fits(c api.Config) bool {
	for _, n := range []int{c.Batch, c.Message, c.Buckets, c.Text, c.Window, c.Workers} {
		if n < 0 || n > math.MaxUint32 {
			return false
		}
	}
	return true
}

// checkWhatever reads 24 bytes by the model.
func checkWhatever(t *testing.T, b []byte) {
	t.Helper()
	var numbers [6]int
	for i := range numbers {
		numbers[i] = int(binary.LittleEndian.Uint32(b[4*i:]))
	}
	c := api.Config{Batch: numbers[0], Message: numbers[1], Buckets: numbers[2], Text: numbers[3], Window: numbers[4], Workers: numbers[5]}
	if isGood(c) {
		checkConfig(t, b, c)
	} else {
		checkNoConfig(t, b, api.ErrConfig)
	}
}

// P20.1: each byte of a config, put to each of its values.
func TestParseConfigOfEachByte(t *testing.T) {
	for _, base := range goodConfigs() {
		for i := range 24 {
			for v := range 256 {
				b := configBytes(base)
				b[i] = byte(v)
				checkWhatever(t, b)
			}
		}
	}
}
