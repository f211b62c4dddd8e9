package derive

import (
	"tryst/api"
	"tryst/digest"
)

const (
	frameSize = 64
	innerTurn = 0x36
	outerTurn = 0x5c
)

// keyed is a hash that has begun with a key's frame: what is written to it goes to the hash by its promoted
// Write. It stands between Mac and the hash, since a method that a nil Mac promotes would panic.
type keyed struct {
	*digest.Hash
	outer *digest.Hash // only ever copied
}

func keyedBy(key []byte) keyed {
	frame := frameOf(key)
	return keyed{Hash: begunWith(frame, innerTurn), outer: begunWith(frame, outerTurn)}
}

// code closes a copy of the outer hash, so that one may write on.
func (k keyed) code() api.Hash {
	inner, outer := k.Sum(), k.outer.Copy()
	outer.Write(inner[:])
	return outer.Sum()
}

func frameOf(key []byte) [frameSize]byte {
	if len(key) > frameSize {
		short := digest.Sum(key)
		key = short[:]
	}
	var frame [frameSize]byte
	copy(frame[:], key)
	return frame
}

func begunWith(frame [frameSize]byte, turn byte) *digest.Hash {
	for i := range frame {
		frame[i] ^= turn
	}
	hash := digest.New()
	hash.Write(frame[:])
	return hash
}
