package codec

import (
	"errors"
	"testing"

	"tryst/api"
)

// Which part can't be written, and why: one deep, and, of an invitation in a frame, two deep.
func TestMisfits(t *testing.T) {
	for _, x := range []struct {
		parts []any
		why   api.Errno
		text  string
	}{
		{[]any{1, row{of(3, 1), 4}, choice{9, 0, 3}}, api.ErrLength, "part 1: error 4"},
		{[]any{choice{4, 0, 3}, row{of(3, 1), 4}}, api.ErrBucket, "part 0: error 201"},
		{[]any{true, invitations(drawnInvites(1, 257))}, api.ErrLong, "part 1: error 3"},
		{[]any{api.Drop{}, 7, invitations{of(88, 1), of(87, 1)}}, api.ErrLength, "part 2: part 2: error 4"},
		{[]any{"no part"}, api.ErrArg, "part 0: error 2"},
	} {
		b, err := written(x.parts...)
		if len(b) > 0 || !errors.Is(err, x.why) || err.Error() != x.text {
			t.Errorf("written = % x, %v, want %s", b, err, x.text)
		}
		b, found := told(b, err)
		checkRefused(t, "told", b, found, x.why)
	}
}

// What is written of each kind of part, in order.
func TestWritten(t *testing.T) {
	b, err := written(258, true, false, api.Drop{5}, choice{3, 0, 3}, row{of(2, 9), 2}, invitations{of(88, 1)})
	if err != nil {
		t.Fatal(err)
	}
	checkBytes(t, "written", b, api.OK, join([]byte{2, 1, 0, 0, 1, 0, 5}, make([]byte, 15), []byte{3, 0, 0, 0, 9, 9, 1, 0, 0, 0}, of(88, 1)))
}
