package octet

import (
	"bytes"

	"tryst/api"
)

// Writer fills a row of bytes of a fixed length; its first error sticks.
type Writer struct {
	size int
	laid []byte
	err  api.Errno
}

func NewWriter(size int) (*Writer, api.Errno) {
	switch {
	case size < 0:
		return nil, api.ErrArg
	case size > api.MaxBytes:
		return nil, api.ErrLong
	}
	return &Writer{size: size}, api.OK
}

func (w *Writer) U8(v uint8) { lay(w, v) }

func (w *Writer) U16(v uint16) { lay(w, v) }

func (w *Writer) U32(v uint32) { lay(w, v) }

func (w *Writer) U64(v uint64) { lay(w, v) }

func (w *Writer) Bytes(b []byte) {
	if w == nil || w.err != api.OK {
		return
	}
	if len(b) > w.Left() {
		w.err = api.ErrRest
		return
	}
	w.laid = append(w.laid, b...)
}

func (w *Writer) Left() int {
	if w == nil {
		return 0
	}
	return w.size - len(w.laid)
}

// Done answers a copy, since it may be asked again.
func (w *Writer) Done() ([]byte, api.Errno) {
	switch {
	case w == nil:
		return nil, api.ErrNil
	case w.err != api.OK:
		return nil, w.err
	case w.Left() > 0:
		return nil, api.ErrShort
	}
	return bytes.Clone(w.laid), api.OK
}

func lay[T api.Plain](w *Writer, v T) { w.Bytes(PutLittle(nil, v)) }
