package squeeze

import (
	"bytes"
	"encoding/binary"
	"math/rand"
	"slices"

	"tryst/api"
	"tryst/record"
	"tryst/slots"
)

// The chapter's words, written as plainly as can be, for the tests to hold the package to.

// hopsOf are the hops of n places, as chapter 16 tells them.
func hopsOf(n int) []api.Hop {
	var hops []api.Hop
	for d := 1; d < n; d *= 2 {
		for from := d; from < n; from++ {
			hops = append(hops, api.Hop{From: from, To: from - d})
		}
	}
	return hops
}

func isLive(b []byte) bool { return len(b) >= 26 && b[0] == 1 && (b[1] == 0 || b[1] == 1) }

func rankIn(b []byte) int { return int(binary.LittleEndian.Uint32(b[6:10])) }

func withRank(b []byte, n int) []byte {
	made := bytes.Clone(b)
	binary.LittleEndian.PutUint32(made[6:10], uint32(n))
	return made
}

// hasBit asks for the bit that counts bit.
func hasBit(b []byte, bit int) bool { return isLive(b) && rankIn(b)/bit%2 == 1 }

func exchange(a, b []byte) {
	kept := bytes.Clone(a)
	copy(a, b)
	copy(b, kept)
}

// measuredOf is the first part of P18.1 on a list, and how many are live.
func measuredOf(lists [][]byte, n int) ([][]byte, int) {
	made := slices.Clone(lists)
	dead := 0
	for i := range n {
		if isLive(lists[i]) {
			made[i] = withRank(lists[i], dead)
		} else {
			made[i] = withRank(lists[i], 0)
			dead++
		}
	}
	return made, n - dead
}

// squeezeOf is P18.1 and R9; n is right.
func squeezeOf(s *slots.Slots, n int) (int, api.Errno) {
	dead := 0
	for i := range n {
		b, err := s.Get(i)
		if err != api.OK {
			return 0, err
		}
		distance := 0
		if isLive(b) {
			distance = dead
		} else {
			dead++
		}
		if err := s.Set(i, withRank(b, distance)); err != api.OK {
			return 0, err
		}
	}
	for _, h := range hopsOf(n) {
		err := s.Pair(h.From, h.To, func(from, to []byte) {
			if hasBit(from, h.From-h.To) {
				exchange(from, to)
			}
		})
		if err != api.OK {
			return 0, err
		}
	}
	return n - dead, api.OK
}

// spreadOf is P18.2 and R9; n is right.
func spreadOf(s *slots.Slots, n int) api.Errno {
	hops := hopsOf(n)
	for k := len(hops) - 1; k >= 0; k-- {
		h := hops[k]
		err := s.Pair(h.From, h.To, func(from, to []byte) {
			if hasBit(to, h.From-h.To) {
				exchange(from, to)
			}
		})
		if err != api.OK {
			return err
		}
	}
	return api.OK
}

// squeezeStates is P18.1 on a list: how it stands ahead of each hop, and behind the last one.
func squeezeStates(lists [][]byte, n int) [][][]byte {
	made, _ := measuredOf(lists, n)
	states := [][][]byte{slices.Clone(made)}
	for _, h := range hopsOf(n) {
		if hasBit(made[h.From], h.From-h.To) {
			made[h.From], made[h.To] = made[h.To], made[h.From]
		}
		states = append(states, slices.Clone(made))
	}
	return states
}

// spreadStates is P18.2 on a list: how it stands ahead of each hop, and behind the last one.
func spreadStates(lists [][]byte, n int) [][][]byte {
	made := slices.Clone(lists)
	states := [][][]byte{slices.Clone(made)}
	for _, h := range slices.Backward(hopsOf(n)) {
		if hasBit(made[h.To], h.From-h.To) {
			made[h.From], made[h.To] = made[h.To], made[h.From]
		}
		states = append(states, slices.Clone(made))
	}
	return states
}

// last is how a list stands in the end.
func last(states [][][]byte) [][]byte { return states[len(states)-1] }

// pairsOf are the accesses of all hops.
func pairsOf(n int) []api.Access {
	var log []api.Access
	for _, h := range hopsOf(n) {
		log = append(log, api.Access{Kind: api.AxPair, Slot: h.From, Other: h.To})
	}
	return log
}

// squeezeLog are the accesses of a Squeeze of n.
func squeezeLog(n int) []api.Access {
	var log []api.Access
	for i := range n {
		log = append(log, api.Access{Kind: api.AxGet, Slot: i}, api.Access{Kind: api.AxSet, Slot: i})
	}
	return append(log, pairsOf(n)...)
}

// spreadLog are the accesses of a Spread of n.
func spreadLog(n int) []api.Access {
	log := pairsOf(n)
	slices.Reverse(log)
	return log
}

// letters are records: capitals are live, small letters dead. The last byte of each is 0, and the Rank is one that no record comes by.
func letters(text string) [][]byte {
	var lists [][]byte
	for i, letter := range []byte(text) {
		h := api.Head{Flag: uint8(i % 2), Index: uint32(i), Rank: 0x7f6e5d4c, Group: api.Drop{letter, 15: letter}}
		if letter >= 'A' && letter <= 'Z' {
			h.Live = 1
		}
		lists = append(lists, record.Make(h, []byte{letter, 0}))
	}
	return lists
}

// pattern has a letter for each of n places: live where bits has a one.
func pattern(n, bits int) string {
	text := make([]byte, n)
	for i := range text {
		text[i] = byte('a' + i)
		if bits>>i&1 == 1 {
			text[i] = byte('A' + i)
		}
	}
	return string(text)
}

// drawnRecords have any Flag, Index, Rank, Group and body; of a hundred so many are live.
func drawnRecords(source *rand.Rand, n, live, body int) [][]byte {
	var lists [][]byte
	for range n {
		list := make([]byte, api.HeadSize+body)
		source.Read(list)
		list[0], list[1] = 0, byte(source.Intn(2))
		if source.Intn(100) < live {
			list[0] = 1
		}
		lists = append(lists, list)
	}
	return lists
}

// withLowRanks gives each record a Rank below most, as hops ask for.
func withLowRanks(source *rand.Rand, lists [][]byte, most int) [][]byte {
	var made [][]byte
	for _, list := range lists {
		made = append(made, withRank(list, source.Intn(most)))
	}
	return made
}

// drawnLists need be no records: their first two bytes are below most, all others any.
func drawnLists(source *rand.Rand, n, size, most int) [][]byte {
	var lists [][]byte
	for range n {
		list := make([]byte, size)
		source.Read(list)
		for k := range min(2, size) {
			list[k] = byte(source.Intn(most))
		}
		lists = append(lists, list)
	}
	return lists
}
