package onion

import (
	"tryst/api"
	"tryst/derive"
	"tryst/ladder"
	"tryst/octet"
	"tryst/seal"
)

const salt = "tryst onion"

// The kinds of nonces.
const (
	kindRequest = 0
	kindReply   = 1
)

// Schedule asks for two keys, which are never too many: derive finds no fault.
func Schedule(secret, first, server api.Key, round uint64) (api.Key, api.Key) {
	info := joined(first[:], server[:], octet.PutLittle(nil, round))
	keys, _ := derive.Keys([]byte(salt), secret[:], info, 2)
	return keys[0], keys[1]
}

// putOn tells the layer, the key of its reply, and all ones, if its secret is not weak. What is within leaves room for the layer, so seal finds no fault.
func putOn(server, private api.Key, round uint64, within []byte) ([]byte, api.Key, uint64) {
	first := ladder.Base(private)
	secret, strong := ladder.Agree(private, server)
	request, reply := Schedule(secret, first, server, round)
	sealed, _ := seal.Seal(request, seal.Nonce(kindRequest, round), nil, within)
	return joined(first[:], sealed), reply, strong
}

// takeOff is Peel of a box whose length is right, so seal finds no fault; server is the public key of own.
func takeOff(own, server api.Key, round uint64, box []byte) api.Peeled {
	first := api.Key(box[:api.KeySize])
	secret, strong := ladder.Agree(own, first)
	request, reply := Schedule(secret, first, server, round)
	inner, right, _ := seal.Peek(request, seal.Nonce(kindRequest, round), nil, box[api.KeySize:])
	valid := strong & right
	keepBy(valid, inner)
	return api.Peeled{Inner: inner, Reply: reply, Valid: valid}
}

// keepBy wipes b, if the mask is 0: what opens under a weak secret anybody may have sealed.
func keepBy(valid uint64, b []byte) {
	for i := range b {
		b[i] &= byte(valid)
	}
}

func joined(parts ...[]byte) []byte {
	size := 0
	for _, part := range parts {
		size += len(part)
	}
	out := make([]byte, 0, size)
	for _, part := range parts {
		out = append(out, part...)
	}
	return out
}
