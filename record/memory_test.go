package record

import (
	"bytes"
	"slices"
	"testing"

	"tryst/api"
)

// withRoom has room behind its end, in which 99 stands.
func withRoom(b []byte) []byte {
	return append(slices.Clone(b), bytes.Repeat([]byte{99}, 30)...)[:len(b)]
}

func checkRoom(t *testing.T, what string, b, want []byte) {
	t.Helper()
	if !bytes.Equal(b, want) || !bytes.Equal(b[len(b):len(b)+30], bytes.Repeat([]byte{99}, 30)) {
		t.Fatalf("%s was changed: % x", what, b[:len(b)+30])
	}
}

// overwrite goes up to the end of the room that a list has.
func overwrite(b []byte) {
	b = b[:cap(b)]
	for i := range b {
		b[i] ^= 0x5a
	}
}

// R5, R6: what is asked changes nothing, and asked again tells the same.
func TestArgumentsStay(t *testing.T) {
	lists := append(noRecords(), exampleBytes(), exampleBytes()[:26], laid(api.Head{Index: 3}, 1, 2, 3))
	for _, x := range lists {
		for _, y := range lists {
			a, b := withRoom(x), withRoom(y)
			masks := [3]uint64{ByGroup(a, b), ByIndex(a, b), Together(a, b)}
			if again := [3]uint64{ByGroup(a, b), ByIndex(a, b), Together(a, b)}; again != masks {
				t.Fatalf("asked again of % x, % x: %v, %v", a, b, masks, again)
			}
			checkRoom(t, "the first list", a, x)
			checkRoom(t, "the second list", b, y)
		}
		a := withRoom(x)
		first, body, err := Parse(a)
		second, again, errAgain := Parse(a)
		if first != second || !bytes.Equal(body, again) || err != errAgain || Live(a) != Live(a) {
			t.Fatalf("asked again of % x", a)
		}
		Make(exampleHead(), a)
		checkRoom(t, "the list", a, x)
	}
}

// R5: what Make answers is neither the body nor another answer.
func TestMadeRecordsAreTheirOwn(t *testing.T) {
	for _, size := range []int{0, 1, 5, 300} {
		body := bytes.Repeat([]byte{6}, size)
		want := laid(exampleHead(), body...)
		first, second := Make(exampleHead(), body), Make(exampleHead(), body)
		overwrite(body)
		checkBytes(t, "Make, its body overwritten", first, want)
		overwrite(first)
		checkBytes(t, "Make, another answer overwritten", second, want)
		if size > 0 && body[0] != 6^0x5a {
			t.Fatalf("the body is %d", body[0])
		}
		checkBytes(t, "Make once more", Make(exampleHead(), bytes.Repeat([]byte{6}, size)), want)
	}
}

// R5: what Parse answers is neither the record nor another answer.
func TestBodiesAreTheirOwn(t *testing.T) {
	for _, size := range []int{0, 1, 5, 300} {
		body := bytes.Repeat([]byte{6}, size)
		b := withRoom(laid(exampleHead(), body...))
		_, first, _ := Parse(b)
		h, second, _ := Parse(b)
		overwrite(first)
		checkBytes(t, "the record, a body overwritten", b, laid(exampleHead(), body...))
		checkRoom(t, "the record", b, laid(exampleHead(), body...))
		overwrite(b)
		checkBytes(t, "the other body", second, body)
		if h != exampleHead() {
			t.Fatalf("the head is %v", h)
		}
	}
}

// P14.3, R5: Put keeps nothing of the list, and nothing of a head but its bytes.
func TestPutKeepsNothing(t *testing.T) {
	first, second := make([]byte, 27), make([]byte, 27)
	h := exampleHead()
	Put(first, h)
	Put(second, h)
	h.Group[0] = 200
	overwrite(first)
	checkBytes(t, "the other list", second, laid(exampleHead(), 0))
}
