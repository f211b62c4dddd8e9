package sweep

import (
	"bytes"
	"encoding/binary"
	"math/rand"
	"slices"

	"tryst/api"
	"tryst/record"
	"tryst/slots"
)

// The chapter's words, written as plainly as can be, for the tests to hold the package to.

func isLive(b []byte) bool { return len(b) >= 26 && b[0] == 1 && (b[1] == 0 || b[1] == 1) }

func groupIn(b []byte) string { return string(b[10:26]) }

func rankIn(b []byte) int { return int(binary.LittleEndian.Uint32(b[6:10])) }

func withRank(b []byte, n int) []byte {
	made := bytes.Clone(b)
	binary.LittleEndian.PutUint32(made[6:10], uint32(n))
	return made
}

// row is neighbours of one Group: where it begins, and how many slots it has.
type row struct{ from, slots int }

// rowsOf goes through the lists from one row to the next.
func rowsOf(lists [][]byte) []row {
	var rows []row
	for from := 0; from < len(lists); {
		end := from
		for end < len(lists) && isLive(lists[end]) && groupIn(lists[end]) == groupIn(lists[from]) {
			end++
		}
		if end == from {
			from++
			continue
		}
		rows = append(rows, row{from, end - from})
		from = end
	}
	return rows
}

// rankedOf is P19.3 on a list.
func rankedOf(lists [][]byte, n int) [][]byte {
	made := slices.Clone(lists)
	for _, r := range rowsOf(lists[:n]) {
		for k := range r.slots {
			made[r.from+k] = withRank(lists[r.from+k], k)
		}
	}
	return made
}

// censusOf is P19.4 on a list.
func censusOf(lists [][]byte) api.Census {
	var census api.Census
	for _, r := range rowsOf(lists) {
		switch r.slots {
		case 1:
			census.Ones++
		case 2:
			census.Twos++
		default:
			census.More++
		}
	}
	return census
}

// countsOf is P19.5 on a list.
func countsOf(lists [][]byte, groups int) []int {
	counts := []int{}
	for k := 1; k < groups; k++ {
		name := binary.BigEndian.AppendUint32(make([]byte, 12), uint32(k))
		count := 0
		for _, list := range lists {
			if isLive(list) && groupIn(list) == string(name) {
				count++
			}
		}
		counts = append(counts, count)
	}
	return counts
}

// forwardOf is P19.1 and P19.6; n is right.
func forwardOf(s *slots.Slots, n int, step func(b []byte)) api.Errno {
	for i := range n {
		if err := stepOf(s, i, step); err != api.OK {
			return err
		}
	}
	return api.OK
}

// backwardOf is P19.1 and P19.6; n is right.
func backwardOf(s *slots.Slots, n int, step func(b []byte)) api.Errno {
	for i := range n {
		if err := stepOf(s, n-1-i, step); err != api.OK {
			return err
		}
	}
	return api.OK
}

func stepOf(s *slots.Slots, i int, step func(b []byte)) api.Errno {
	b, err := s.Get(i)
	if err != api.OK {
		return err
	}
	step(b)
	return s.Set(i, bytes.Clone(b))
}

// neighboursOf is P19.2 and P19.6; n is right.
func neighboursOf(s *slots.Slots, n int, step func(a, b []byte)) api.Errno {
	for i := 0; i+1 < n; i++ {
		if err := s.Pair(i, i+1, step); err != api.OK {
			return err
		}
	}
	return api.OK
}

// ranksOf is P19.3 and P19.6; n is right.
func ranksOf(s *slots.Slots, n int) api.Errno {
	var got [][]byte
	for i := range n {
		b, err := s.Get(i)
		if err != api.OK {
			return err
		}
		got = append(got, b)
		if err := s.Set(i, rankedOf(got, len(got))[i]); err != api.OK {
			return err
		}
	}
	return api.OK
}

// readOf is P19.6 of the calls that get all slots and set none; n is right.
func readOf(s *slots.Slots, n int) ([][]byte, api.Errno) {
	var got [][]byte
	for i := range n {
		b, err := s.Get(i)
		if err != api.OK {
			return nil, err
		}
		got = append(got, b)
	}
	return got, api.OK
}

// getsOf are the accesses of a Census, or of Counts, of n.
func getsOf(n int) []api.Access {
	var log []api.Access
	for i := range n {
		log = append(log, api.Access{Kind: api.AxGet, Slot: i})
	}
	return log
}

// forwardLog are the accesses of a Forward, or of Ranks, of n.
func forwardLog(n int) []api.Access {
	var log []api.Access
	for i := range n {
		log = append(log, api.Access{Kind: api.AxGet, Slot: i}, api.Access{Kind: api.AxSet, Slot: i})
	}
	return log
}

// backwardLog are the accesses of a Backward of n.
func backwardLog(n int) []api.Access {
	var log []api.Access
	for i := range n {
		log = append(log, api.Access{Kind: api.AxGet, Slot: n - 1 - i}, api.Access{Kind: api.AxSet, Slot: n - 1 - i})
	}
	return log
}

// neighboursLog are the accesses of Neighbours of n.
func neighboursLog(n int) []api.Access {
	var log []api.Access
	for i := 0; i+1 < n; i++ {
		log = append(log, api.Access{Kind: api.AxPair, Slot: i, Other: i + 1})
	}
	return log
}

// groupOf is twelve bytes 0 and BE4 of a number.
func groupOf(k uint32) api.Drop {
	var group api.Drop
	binary.BigEndian.PutUint32(group[12:], k)
	return group
}

// letters are records of the Groups of letters: A is 1, B is 2. Capitals are live, small letters dead; a ? is none, though it has the Group of A, and Live is 1. The Rank is one that no record comes by.
func letters(text string) [][]byte {
	var lists [][]byte
	for i, letter := range []byte(text) {
		h := api.Head{Flag: uint8(i % 2), Index: uint32(i), Rank: 0x7f6e5d4c}
		switch {
		case letter == '?':
			h.Live, h.Flag, h.Group = 1, 2, groupOf(1)
		case letter >= 'a':
			h.Group = groupOf(uint32(letter - 'a' + 1))
		default:
			h.Live, h.Group = 1, groupOf(uint32(letter-'A'+1))
		}
		lists = append(lists, record.Make(h, []byte{letter, byte(i)}))
	}
	return lists
}

// textsOf are all texts of n letters of an alphabet.
func textsOf(alphabet string, n int) []string {
	if n == 0 {
		return []string{""}
	}
	var texts []string
	for _, text := range textsOf(alphabet, n-1) {
		for _, letter := range alphabet {
			texts = append(texts, text+string(letter))
		}
	}
	return texts
}

// drawnRecords have any Flag, Index, Rank and body, and one of so many Groups, from 0 on; of a hundred so many are live.
func drawnRecords(source *rand.Rand, n, live, groups, body int) [][]byte {
	var lists [][]byte
	for range n {
		h := api.Head{Flag: uint8(source.Intn(2)), Index: source.Uint32(), Rank: source.Uint32(), Group: groupOf(uint32(source.Intn(groups)))}
		if source.Intn(100) < live {
			h.Live = 1
		}
		bytesOfBody := make([]byte, body)
		source.Read(bytesOfBody)
		lists = append(lists, record.Make(h, bytesOfBody))
	}
	return lists
}

// drawnLists need be no records; each byte is below most, so that of a low one many lists have one Group.
func drawnLists(source *rand.Rand, n, size, most int) [][]byte {
	var lists [][]byte
	for range n {
		list := make([]byte, size)
		for k := range list {
			list[k] = byte(source.Intn(most))
		}
		lists = append(lists, list)
	}
	return lists
}

// headsOfAll are Lives and Flags that no record has, beside all those that records have.
func headsOfAll() [][2]byte {
	var heads [][2]byte
	for _, live := range []byte{0, 1, 2, 3, 0x81, 0xff} {
		for _, flag := range []byte{0, 1, 2, 3, 0x80, 0xfe, 0xff} {
			heads = append(heads, [2]byte{live, flag})
		}
	}
	return heads
}

// numbers are such that slots fill pages, and such that they don't.
func numbers() []int {
	return []int{0, 1, 2, 3, 4, 5, 6, 7, 8, 9, 12, 15, 16, 17, 33}
}
