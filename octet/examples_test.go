package octet

import (
	"bytes"
	"testing"

	"tryst/api"
)

// The chapter's table of examples, row by row.

func TestExamplesOfNumbers(t *testing.T) {
	if v, e := Little[uint16]([]byte{1, 2}); v != 513 || e != api.OK {
		t.Errorf("Little = %d, %d", v, e)
	}
	if v, e := Big[uint16]([]byte{1, 2}); v != 258 || e != api.OK {
		t.Errorf("Big = %d, %d", v, e)
	}
	if v, e := Little[uint32]([]byte{1, 2}); v != 0 || e != api.ErrShort {
		t.Errorf("Little of too few = %d, %d", v, e)
	}
	if v, e := Little[uint8]([]byte{1, 2}); v != 0 || e != api.ErrRest {
		t.Errorf("Little of too many = %d, %d", v, e)
	}
	if b := PutLittle([]byte{9}, uint32(258)); !bytes.Equal(b, []byte{9, 2, 1, 0, 0}) {
		t.Errorf("PutLittle = %v", b)
	}
	if b := PutBig(nil, uint64(1)); !bytes.Equal(b, []byte{0, 0, 0, 0, 0, 0, 0, 1}) {
		t.Errorf("PutBig = %v", b)
	}
}

func TestExamplesOfReaders(t *testing.T) {
	r := NewReader([]byte{1, 2, 3, 4, 5})
	if a, b, c := r.U16(), r.U32(), r.U8(); a != 513 || b != 0 || c != 0 {
		t.Errorf("numbers %d, %d, %d", a, b, c)
	}
	checkReader(t, r, 3, api.ErrShort, api.ErrShort)

	r = NewReader([]byte{1, 2, 3})
	if b := r.Bytes(2); !bytes.Equal(b, []byte{1, 2}) {
		t.Errorf("Bytes(2) = %v", b)
	}
	checkReader(t, r, 1, api.OK, api.ErrRest)
	if v := r.U8(); v != 3 {
		t.Errorf("U8 = %d", v)
	}
	checkReader(t, r, 0, api.OK, api.OK)

	r = NewReader([]byte{1})
	if a, b, c := r.Bytes(0), r.Bytes(-1), r.U8(); len(a) != 0 || len(b) != 0 || c != 0 {
		t.Errorf("answers %v, %v, %d", a, b, c)
	}
	checkReader(t, r, 1, api.ErrArg, api.ErrArg)
}

func TestExamplesOfWriters(t *testing.T) {
	w := newWriter(t, 3)
	w.U16(513)
	checkWriter(t, w, 1, nil, api.ErrShort)
	w.U16(7)
	w.U8(3)
	checkWriter(t, w, 1, nil, api.ErrRest)

	checkWriter(t, newWriter(t, 0), 0, nil, api.OK)
	if w, e := NewWriter(-1); w != nil || e != api.ErrArg {
		t.Errorf("NewWriter(-1) = %v, %d", w, e)
	}
	if w, e := NewWriter(1048577); w != nil || e != api.ErrLong {
		t.Errorf("NewWriter(1048577) = %v, %d", w, e)
	}
}

func TestExamplesOfTexts(t *testing.T) {
	if s := Hex([]byte{0, 171, 16}); s != "00ab10" {
		t.Errorf("Hex = %q", s)
	}
	for _, c := range []struct {
		text string
		want []byte
		err  api.Errno
	}{
		{"00ab10", []byte{0, 171, 16}, api.OK}, {"0", nil, api.ErrHex}, {"AB", nil, api.ErrHex}, {"", nil, api.OK},
	} {
		if b, e := Unhex(c.text); e != c.err || !bytes.Equal(b, c.want) {
			t.Errorf("Unhex(%q) = %v, %d, want %v, %d", c.text, b, e, c.want, c.err)
		}
	}
}
