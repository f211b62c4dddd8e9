package octet

import (
	"math/bits"

	"tryst/api"
)

func Little[T api.Plain](b []byte) (T, api.Errno) {
	if err := fits[T](b); err != api.OK {
		return 0, err
	}
	number := uint64(0)
	for i := len(b) - 1; i >= 0; i-- {
		number = number<<8 | uint64(b[i])
	}
	return T(number), api.OK
}

func Big[T api.Plain](b []byte) (T, api.Errno) {
	if err := fits[T](b); err != api.OK {
		return 0, err
	}
	number := uint64(0)
	for _, digit := range b {
		number = number<<8 | uint64(digit)
	}
	return T(number), api.OK
}

func PutLittle[T api.Plain](b []byte, v T) []byte {
	out := roomBehind(b, width[T]())
	for i := range width[T]() {
		out = append(out, byteAt(v, i))
	}
	return out
}

func PutBig[T api.Plain](b []byte, v T) []byte {
	out := roomBehind(b, width[T]())
	for i := width[T]() - 1; i >= 0; i-- {
		out = append(out, byteAt(v, i))
	}
	return out
}

// width asks the greatest number of T, since types defined upon the four kinds count as well.
func width[T api.Plain]() int { return bits.Len64(uint64(^T(0))) / 8 }

func fits[T api.Plain](b []byte) api.Errno {
	switch {
	case len(b) < width[T]():
		return api.ErrShort
	case len(b) > width[T]():
		return api.ErrRest
	}
	return api.OK
}

// roomBehind copies b, since the room behind its end is the caller's.
func roomBehind(b []byte, more int) []byte {
	out := make([]byte, 0, len(b)+more)
	return append(out, b...)
}

// byteAt counts from the lowest byte on.
func byteAt[T api.Plain](v T, i int) byte { return byte(uint64(v) >> (8 * i)) }
