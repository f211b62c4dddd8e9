package codec

import (
	"bytes"
	"testing"

	"tryst/api"
)

// withRoom has room behind its end, in which 99 stands.
func withRoom(b []byte) []byte {
	return append(bytes.Clone(b), of(200, 99)...)[:len(b)]
}

func checkRoom(t *testing.T, what string, b, want []byte) {
	t.Helper()
	if !bytes.Equal(b, want) || !bytes.Equal(b[len(b):len(b)+200], of(200, 99)) {
		t.Fatalf("%s was changed: % x", what, b[:len(b)+200])
	}
}

// overwrite goes up to the end of the room that a list has.
func overwrite(b []byte) {
	b = b[:cap(b)]
	for i := range b {
		b[i] ^= 0x5a
	}
}

// checkLaid makes something of a list twice: neither answer shares anything with the list, or with the other one.
func checkLaid(t *testing.T, what string, list, want []byte, lay func(list []byte) ([]byte, api.Errno)) {
	t.Helper()
	given := withRoom(list)
	first, err := lay(given)
	checkBytes(t, what, first, err, want)
	second, err := lay(given)
	checkBytes(t, what+" once more", second, err, want)
	checkRoom(t, "what was handed to "+what, given, list)
	overwrite(first)
	checkRoom(t, "what was handed to "+what, given, list)
	overwrite(given)
	checkBytes(t, what+", all else overwritten", second, api.OK, want)
}

// R5
func TestWhatIsLaidIsItsOwn(t *testing.T) {
	for _, c := range goodConfigs() {
		message, invite := drawn(1, c.Message), drawn(2, 88)
		checkLaid(t, "PutConfig", nil, configBytes(c), func([]byte) ([]byte, api.Errno) { return PutConfig(c) })
		checkLaid(t, "TalkRequest", message, talkBytes(drawnDrop(3), message), func(list []byte) ([]byte, api.Errno) {
			return TalkRequest(c, drawnDrop(3), list)
		})
		checkLaid(t, "TalkReply", message, replyBytes(true, message), func(list []byte) ([]byte, api.Errno) {
			return TalkReply(c, true, list)
		})
		checkLaid(t, "TalkReply of nobody", message, replyBytes(false, message), func(list []byte) ([]byte, api.Errno) {
			return TalkReply(c, false, list)
		})
		checkLaid(t, "DialRequest", invite, dialBytes(1, invite), func(list []byte) ([]byte, api.Errno) {
			return DialRequest(c, 1, list)
		})
		checkLaid(t, "Frame", invite, frameBytes(1, [][]byte{invite, invite}), func(list []byte) ([]byte, api.Errno) {
			return Frame(1, [][]byte{list, list})
		})
	}
	checkLaid(t, "Ack", nil, []byte("tryst: rung, ok."), func([]byte) ([]byte, api.Errno) { return Ack(), api.OK })
}

// checkParsed takes lists out of bytes twice: none of them shares anything with the bytes, or with another one.
func checkParsed(t *testing.T, what string, b []byte, want [][]byte, parse func(b []byte) [][]byte) {
	t.Helper()
	given := withRoom(b)
	first, second := parse(given), parse(given)
	for i := range want {
		checkBytes(t, what, first[i], api.OK, want[i])
		overwrite(first[i])
		checkRoom(t, "what was handed to "+what, given, b)
	}
	overwrite(given)
	for i := range want {
		checkBytes(t, what+" once more", second[i], api.OK, want[i])
		overwrite(second[i])
	}
	checkBytes(t, "what was handed to "+what, given, api.OK, xored(b))
}

func xored(b []byte) []byte {
	out := bytes.Clone(b)
	for i := range out {
		out[i] ^= 0x5a
	}
	return out
}

// R5
func TestWhatIsReadIsItsOwn(t *testing.T) {
	for _, c := range goodConfigs() {
		message, invite := drawn(1, c.Message), drawn(2, 88)
		checkParsed(t, "ParseTalk", talkBytes(drawnDrop(3), message), [][]byte{message}, func(b []byte) [][]byte {
			_, list, _ := ParseTalk(c, b)
			return [][]byte{list}
		})
		for _, there := range []bool{true, false} {
			reply := replyBytes(there, message)
			checkParsed(t, "ParseReply", reply, [][]byte{reply[1:]}, func(b []byte) [][]byte {
				_, list, _ := ParseReply(c, b)
				return [][]byte{list}
			})
		}
		checkParsed(t, "ParseDial", dialBytes(1, invite), [][]byte{invite}, func(b []byte) [][]byte {
			_, list, _ := ParseDial(c, b)
			return [][]byte{list}
		})
	}
	for _, n := range []int{0, 1, 2, 5, 256} {
		invites := drawnInvites(4, n)
		checkParsed(t, "ParseFrame", frameBytes(9, invites), invites, func(b []byte) [][]byte {
			_, lists, _ := ParseFrame(b)
			return lists
		})
	}
}

// R5: what is refused stays as it is, too.
func TestWhatIsRefusedStays(t *testing.T) {
	c := exampleConfig()
	for _, length := range []int{0, 7, 8, 31, 33, 34, 47, 49, 87, 89, 91, 93, 96, 97} {
		list := drawnWith(1, length, 2, 0, 0, 0, 1, 0, 0, 0)
		given := withRoom(list)
		TalkRequest(c, api.Drop{}, given)
		TalkReply(c, true, given)
		TalkReply(c, false, given)
		DialRequest(c, 1, given)
		Frame(1, [][]byte{given, given})
		ParseConfig(given)
		ParseTalk(c, given)
		ParseReply(c, given)
		ParseDial(c, given)
		ParseFrame(given)
		checkRoom(t, "the list", given, list)
	}
}

// R5: the list of lists that Frame is handed stays as well, with the room behind its end.
func TestTheListOfListsStays(t *testing.T) {
	lists := drawnInvites(1, 5)
	Frame(1, lists[:2])
	Frame(0, lists[:2])
	for i, want := range drawnInvites(1, 5) {
		checkBytes(t, "an invitation", lists[i], api.OK, want)
	}
	_, read, _ := ParseFrame(frameBytes(1, lists[:2]))
	_, other, _ := ParseFrame(frameBytes(1, lists[:2]))
	read = append(read, of(88, 1))
	read[0] = nil
	checkBytes(t, "the other answer's invitation", other[0], api.OK, lists[0])
}
