package onion

import (
	"bytes"
	"encoding/hex"
	"strings"
	"testing"

	"tryst/api"
	"tryst/ladder"
)

const yes = ^uint64(0)

// unhex takes hexadecimal digits, between which there may be blanks.
func unhex(digits string) []byte {
	b, err := hex.DecodeString(strings.Join(strings.Fields(digits), ""))
	if err != nil {
		panic(err)
	}
	return b
}

func checkBytes(t *testing.T, what string, got, want []byte) {
	t.Helper()
	if !bytes.Equal(got, want) {
		t.Fatalf("%s = %d bytes, %.100x, want %d, %.100x", what, len(got), got, len(want), want)
	}
}

func checkKey(t *testing.T, what string, got, want api.Key) {
	t.Helper()
	if got != want {
		t.Fatalf("%s = %x, want %x", what, got, want)
	}
}

func checkPeeled(t *testing.T, what string, got, want api.Peeled) {
	t.Helper()
	checkBytes(t, what+": Inner", got.Inner, want.Inner)
	checkKey(t, what+": Reply", got.Reply, want.Reply)
	if got.Valid != want.Valid {
		t.Fatalf("%s: Valid = %#x, want %#x", what, got.Valid, want.Valid)
	}
}

func wrapped(t *testing.T, servers, privates []api.Key, round uint64, inner []byte) ([]byte, []api.Key) {
	t.Helper()
	box, replies, err := Wrap(servers, privates, round, inner)
	if err != api.OK || len(replies) != len(servers) {
		t.Fatalf("Wrap for %d servers of %d bytes: %d keys, %d", len(servers), len(inner), len(replies), err)
	}
	return box, replies
}

func peeledBy(t *testing.T, own api.Key, round uint64, box []byte) api.Peeled {
	t.Helper()
	peeled, err := Peel(own, round, box)
	if err != api.OK {
		t.Fatalf("Peel of %d bytes: %d", len(box), err)
	}
	return peeled
}

func answered(t *testing.T, reply api.Key, round uint64, text []byte) []byte {
	t.Helper()
	box, err := Answer(reply, round, text)
	if err != api.OK {
		t.Fatalf("Answer of %d bytes: %d", len(text), err)
	}
	return box
}

func checkWrapRefused(t *testing.T, servers, privates []api.Key, inner []byte, want api.Errno) {
	t.Helper()
	box, replies, err := Wrap(servers, privates, 7, inner)
	if err != want || len(box) != 0 || len(replies) != 0 {
		t.Errorf("Wrap for %d servers by %d keys of %d bytes = %d bytes, %d keys, %d, want %d", len(servers), len(privates), len(inner), len(box), len(replies), err, want)
	}
}

func checkPeelRefused(t *testing.T, own api.Key, box []byte, want api.Errno) {
	t.Helper()
	peeled, err := Peel(own, 7, box)
	if err != want || len(peeled.Inner) != 0 || peeled.Reply != (api.Key{}) || peeled.Valid != 0 {
		t.Errorf("Peel of %d bytes = %d bytes, %x, %#x, %d, want %d", len(box), len(peeled.Inner), peeled.Reply, peeled.Valid, err, want)
	}
}

func checkUnwrapRefused(t *testing.T, what string, replies []api.Key, round uint64, box []byte, want api.Errno) {
	t.Helper()
	text, err := Unwrap(replies, round, box)
	if err != want || len(text) != 0 {
		t.Errorf("%s: Unwrap under %d keys of %d bytes = %d bytes, %d, want %d", what, len(replies), len(box), len(text), err, want)
	}
}

// The chapter's table of examples, row by row.

// given is what the table speaks of: s, S, k, the onion of "hello" in the round 7, and its key.
func given(t *testing.T) (s, S, k api.Key, hello []byte, reply api.Key) {
	t.Helper()
	s, k = api.Key{1, 2, 3}, api.Key{9, 9}
	S = ladder.Base(s)
	hello, replies := wrapped(t, []api.Key{S}, []api.Key{k}, 7, []byte("hello"))
	return s, S, k, hello, replies[0]
}

func TestExamplesOfWrap(t *testing.T) {
	_, S, k, hello, _ := given(t)
	first := ladder.Base(k)
	checkBytes(t, "the first bytes", hello[:32], first[:])
	if len(hello) != 53 {
		t.Errorf("the onion has %d bytes", len(hello))
	}
	nine := make([]api.Key, 9)
	for i := range nine {
		nine[i] = S
	}
	checkWrapRefused(t, nil, nil, []byte("hello"), api.ErrServers)
	checkWrapRefused(t, nine[:1], nil, []byte("hello"), api.ErrServers)
	checkWrapRefused(t, nine, nine, []byte("hello"), api.ErrServers)
	checkWrapRefused(t, make([]api.Key, 1), []api.Key{k}, []byte("hello"), api.ErrWeak)
}

func TestExamplesOfPeel(t *testing.T) {
	s, S, _, hello, reply := given(t)
	checkPeeled(t, "in its round", peeledBy(t, s, 7, hello), api.Peeled{Inner: []byte("hello"), Reply: reply, Valid: yes})

	other := peeledBy(t, s, 8, hello)
	if other.Reply == reply {
		t.Error("the key of another round is the same")
	}
	checkPeeled(t, "in another round", other, api.Peeled{Inner: make([]byte, 5), Reply: other.Reply})

	checkPeelRefused(t, s, hello[:47], api.ErrLength)

	weak, key := layerOf(api.Key{}, api.Key{}, S, 7, []byte("anything"))
	checkPeeled(t, "weak", peeledBy(t, s, 7, weak), api.Peeled{Inner: make([]byte, 8), Reply: key})
}

func TestExamplesOfPeelAll(t *testing.T) {
	s, _, _, hello, _ := given(t)
	for _, c := range []struct {
		boxes   [][]byte
		workers int
		err     api.Errno
	}{
		{nil, 0, api.ErrArg}, {nil, 17, api.ErrArg}, {nil, 1, api.OK},
		{[][]byte{hello, hello[:47]}, 2, api.ErrLength},
	} {
		if peeled, err := PeelAll(s, 7, c.boxes, c.workers); err != c.err || len(peeled) != 0 {
			t.Errorf("PeelAll of %d by %d = %d of them, %d, want %d", len(c.boxes), c.workers, len(peeled), err, c.err)
		}
	}
}

func TestExamplesOfUnwrap(t *testing.T) {
	_, _, _, _, reply := given(t)
	text, err := Unwrap([]api.Key{reply}, 7, answered(t, reply, 7, []byte("hi")))
	if err != api.OK || string(text) != "hi" {
		t.Errorf("Unwrap = %q, %d", text, err)
	}
	checkUnwrapRefused(t, "no keys", nil, 7, make([]byte, 50), api.ErrServers)
	checkUnwrapRefused(t, "15 bytes", []api.Key{reply}, 7, make([]byte, 15), api.ErrLength)
}

// counted are 32 bytes, each one above the one ahead of it.
func counted(from byte) (k api.Key) {
	for i := range k {
		k[i] = from + byte(i)
	}
	return k
}

// P10.1, P10.2, P10.5: bytes that another program made, by another library, as the document's words say.
func TestBytesOfAnotherProgram(t *testing.T) {
	const round = 0x0807060504030201
	request, reply := Schedule(counted(1), counted(0x21), counted(0x41), round)
	checkBytes(t, "the first key", request[:], unhex("8a6b1ae3043b8ab1f82cc407cf46e5b89e9d4e0710ec20f15a0d5622ae830a37"))
	checkBytes(t, "the second key", reply[:], unhex("a2fb3f566452aec96f05d31d3efe7b96d67db47cc8b01c6d4723d6054e171754"))

	servers := []api.Key{ladder.Base(counted(0x10)), ladder.Base(counted(0x40)), ladder.Base(counted(0x70))}
	box, replies := wrapped(t, servers, []api.Key{counted(0xa0), counted(0xc0), counted(0xe0)}, round, []byte("hello, exit"))
	checkBytes(t, "Wrap", box, unhex(`
		605a725d2a4adfeeb1a29e17edd621c1b7593ee8cdbc44ac6c4ab6e2f805d23c46fbd0a92bb5f0b810cea3ed7a1cb26b5392787b0fd2
		ee01e5a4fb2a220338545c3876968ace5662351309a95ec424c012b762942f2b904d7f78a8549daa63943b035f868794936b1741b63f
		179a215f29e5e244f0f88b6c7975c4d289013ed321ccbd1a6db005dad5c5180aa2787dc3db4db00eb86ec249c684a6`))
	for i, want := range []string{
		"a6aa62579570e5e5bc509b5e7fab2e92f72d9fb85fed6b6827da43a604b3d18b",
		"e30923a7fb5de75e864a614e219f46c59f536161298390b67af71d0d8ab0a700",
		"17a3a1c4a12c24f6fdf22afff499a92dd21abd69898807aa5a65c603847d0a4e",
	} {
		checkBytes(t, "a reply's key", replies[i][:], unhex(want))
	}

	back := []byte("hello, client")
	for i := 2; i >= 0; i-- {
		back = answered(t, replies[i], round, back)
	}
	checkBytes(t, "Answer, three times", back, unhex(`
		22d66debaba5f45eead3ef7ef92dd26e54e30f647ee7bfa4128fccca0f286895
		55cf20b75f66f145982ce18ebbbd3ce6dbcf5b08cd34f33ac0e161468e`))
}
