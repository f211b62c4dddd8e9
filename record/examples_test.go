package record

import (
	"bytes"
	"encoding/binary"
	"testing"

	"tryst/api"
)

// laid is what the chapter calls the bytes of a head, and a body behind them.
func laid(h api.Head, body ...byte) []byte {
	b := []byte{h.Live, h.Flag}
	b = binary.LittleEndian.AppendUint32(b, h.Index)
	b = binary.LittleEndian.AppendUint32(b, h.Rank)
	for _, part := range h.Group {
		b = append(b, part)
	}
	return append(b, body...)
}

func checkBytes(t *testing.T, what string, got, want []byte) {
	t.Helper()
	if !bytes.Equal(got, want) {
		t.Fatalf("%s = % x, want % x", what, got, want)
	}
}

func checkParse(t *testing.T, b []byte, want api.Head, wantBody ...byte) {
	t.Helper()
	h, body, err := Parse(b)
	if err != api.OK || h != want || !bytes.Equal(body, wantBody) {
		t.Fatalf("Parse(% x) = %v, % x, %d, want %v, % x", b, h, body, err, want, wantBody)
	}
}

func checkNoRecord(t *testing.T, b []byte) {
	t.Helper()
	h, body, err := Parse(b)
	if err != api.ErrRecord || h != (api.Head{}) || len(body) != 0 {
		t.Fatalf("Parse(% x) = %v, % x, %d", b, h, body, err)
	}
}

// exampleHead is the chapter's h.
func exampleHead() api.Head {
	return api.Head{Live: 1, Flag: 0, Index: 258, Rank: 3, Group: api.Drop{7}}
}

// exampleBytes are those of h and the body 9, written out.
func exampleBytes() []byte {
	return []byte{1, 0, 2, 1, 0, 0, 3, 0, 0, 0, 7, 0, 0, 0, 0, 0, 0, 0, 0, 0, 0, 0, 0, 0, 0, 0, 9}
}

// The chapter's table of examples, row by row.

// P14.1, P14.2
func TestExamplesOfMakeAndParse(t *testing.T) {
	h := exampleHead()
	b := Make(h, []byte{9})
	checkBytes(t, "Make", b, exampleBytes())
	checkParse(t, b, h, 9)
	checkNoRecord(t, b[:25])
	checkParse(t, b[:26], h)
	wrong := exampleBytes()
	wrong[0] = 2
	checkNoRecord(t, wrong)
	wrong = exampleBytes()
	wrong[1] = 2
	checkNoRecord(t, wrong)
}

// P14.3
func TestExampleOfPut(t *testing.T) {
	if err := Put(make([]byte, 25), exampleHead()); err != api.ErrRecord {
		t.Fatalf("Put over 25 bytes: %d", err)
	}
}

// P14.4, P14.5
func TestExamplesOfOrders(t *testing.T) {
	a := laid(api.Head{Live: 1, Group: api.Drop{1}, Index: 5})
	b := laid(api.Head{Live: 1, Group: api.Drop{1}, Index: 6})
	c := laid(api.Head{Live: 1, Group: api.Drop{2}, Index: 0})
	d := laid(api.Head{Index: 0})
	e := laid(api.Head{Index: 9})
	for i, x := range []struct{ got, want uint64 }{
		{ByGroup(a, b), 1<<64 - 1}, {ByGroup(b, a), 0}, {ByGroup(b, c), 1<<64 - 1}, {ByGroup(c, d), 1<<64 - 1},
		{ByGroup(d, c), 0}, {ByGroup(d, e), 1<<64 - 1}, {ByGroup(a, a), 0},
		{ByIndex(a, b), 1<<64 - 1}, {ByIndex(c, a), 1<<64 - 1}, {ByIndex(d, c), 0}, {ByIndex(e, a), 0},
		{Together(a, b), 1<<64 - 1}, {Together(a, c), 0}, {Together(d, d), 0}, {Together(a, a), 1<<64 - 1},
		{Live(a), 1<<64 - 1}, {Live(d), 0}, {Live(nil), 0}, {ByIndex(nil, a), 0},
	} {
		if x.got != x.want {
			t.Errorf("example %d: %#x, want %#x", i, x.got, x.want)
		}
	}
}
