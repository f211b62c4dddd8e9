package octet

import (
	"bytes"

	"tryst/api"
)

// Reader reads bytes from the front on; its first error sticks.
type Reader struct {
	row   []byte
	place int
	err   api.Errno
}

// NewReader keeps a copy, so that what is written into b afterwards shows nowhere.
func NewReader(b []byte) *Reader { return &Reader{row: bytes.Clone(b)} }

func (r *Reader) U8() uint8 { return take[uint8](r) }

func (r *Reader) U16() uint16 { return take[uint16](r) }

func (r *Reader) U32() uint32 { return take[uint32](r) }

func (r *Reader) U64() uint64 { return take[uint64](r) }

// Bytes cuts the copy off at its end: what is appended to one answer can't reach into anything else.
func (r *Reader) Bytes(n int) []byte {
	piece := bytes.Clone(r.next(n))
	return piece[:len(piece):len(piece)]
}

func (r *Reader) Left() int {
	if r == nil {
		return 0
	}
	return len(r.row) - r.place
}

func (r *Reader) Err() api.Errno {
	if r == nil {
		return api.ErrNil
	}
	return r.err
}

func (r *Reader) End() api.Errno {
	if err := r.Err(); err != api.OK {
		return err
	}
	if r.Left() > 0 {
		return api.ErrRest
	}
	return api.OK
}

func take[T api.Plain](r *Reader) T {
	// Where nothing was taken Little answers 0, which is what is asked for there.
	number, _ := Little[T](r.next(width[T]()))
	return number
}

// next is the one place where a reader moves on, or gets its error; what it answers is still the reader's own.
func (r *Reader) next(n int) []byte {
	switch {
	case r.Err() != api.OK:
		return nil
	case n < 0:
		r.err = api.ErrArg
		return nil
	case n > r.Left():
		r.err = api.ErrShort
		return nil
	}
	from := r.place
	r.place += n
	return r.row[from:r.place]
}
