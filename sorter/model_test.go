package sorter

import (
	"bytes"
	"encoding/binary"
	"encoding/hex"
	"math/rand"
	"slices"
	"testing"

	"tryst/api"
	"tryst/record"
	"tryst/slots"
)

// The chapter's words, written as plainly as can be, for the tests to hold the package to.

// gatesOf are the gates of a size, as chapter 16 tells them.
func gatesOf(n int) []api.Gate {
	var gates []api.Gate
	for k := 2; k <= n; k *= 2 {
		for j := k / 2; j >= 1; j /= 2 {
			for i := range n {
				switch {
				case i/j%2 == 1:
				case i/k%2 == 0:
					gates = append(gates, api.Gate{Low: i, High: i + j})
				default:
					gates = append(gates, api.Gate{Low: i + j, High: i})
				}
			}
		}
	}
	return gates
}

// tradeOf exchanges bits where the word has ones, bit by bit.
func tradeOf(word uint64, a, b []byte) {
	for k := range a {
		for bit := range 8 {
			if one := byte(1) << bit; word>>bit&1 == 1 && a[k]&one != b[k]&one {
				a[k] ^= one
				b[k] ^= one
			}
		}
	}
}

// sortOf is P17.1 and P17.4; n is 0 or a size.
func sortOf(s *slots.Slots, n int, before order) api.Errno {
	for _, g := range gatesOf(n) {
		err := s.Pair(g.Low, g.High, func(low, high []byte) {
			tradeOf(before(bytes.Clone(high), bytes.Clone(low)), low, high)
		})
		if err != api.OK {
			return err
		}
	}
	return api.OK
}

// sortedOf is P17.3 and P17.4; n is right.
func sortedOf(s *slots.Slots, n int, before order) (bool, api.Errno) {
	answer := true
	var got [][]byte
	for i := range n {
		b, err := s.Get(i)
		if err != api.OK {
			return false, err
		}
		got = append(got, b)
		if i > 0 && before(bytes.Clone(got[i]), bytes.Clone(got[i-1])) != 0 {
			answer = false
		}
	}
	return answer, api.OK
}

// listSortOf is P17.1 on a list: what the slots hold behind it.
func listSortOf(lists [][]byte, n int, before order) [][]byte {
	var made [][]byte
	for _, list := range lists {
		made = append(made, bytes.Clone(list))
	}
	for _, g := range gatesOf(n) {
		tradeOf(before(bytes.Clone(made[g.High]), bytes.Clone(made[g.Low])), made[g.Low], made[g.High])
	}
	return made
}

// pairsOf are the accesses of a Sort of n.
func pairsOf(n int) []api.Access {
	var log []api.Access
	for _, g := range gatesOf(n) {
		log = append(log, api.Access{Kind: api.AxPair, Slot: g.Low, Other: g.High})
	}
	return log
}

// getsOf are the accesses of a Sorted of n.
func getsOf(n int) []api.Access {
	var log []api.Access
	for i := range n {
		log = append(log, api.Access{Kind: api.AxGet, Slot: i})
	}
	return log
}

// question is what an order was asked with, and how many accesses there were by then.
type question struct {
	a, b     string
	accesses int
}

// noted writes down in asked what an order is asked about the slots of b.
func noted(b *bench, asked *[]question, before order) order {
	return func(x, y []byte) uint64 {
		*asked = append(*asked, question{hex.EncodeToString(x), hex.EncodeToString(y), len(b.slots.Log())})
		return before(x, y)
	}
}

// never is an order that nobody asks.
func never(t *testing.T) order {
	return func(a, b []byte) uint64 {
		t.Error("before is asked")
		return yes
	}
}

// maskOf turns a bool into a mask.
func maskOf(b bool) uint64 {
	if b {
		return yes
	}
	return 0
}

// orders are as P17.5 asks for them: of whole lists, of some of their bytes, of all being alike.
func orders() []order {
	return []order{
		record.ByGroup,
		record.ByIndex,
		func(a, b []byte) uint64 { return record.ByIndex(b, a) },
		func(a, b []byte) uint64 { return record.ByGroup(b, a) },
		func(a, b []byte) uint64 { return maskOf(bytes.Compare(a, b) < 0) },
		func(a, b []byte) uint64 { return maskOf(a[len(a)-1] > b[len(b)-1]) },
		func(a, b []byte) uint64 { return maskOf(a[0]%2 < b[0]%2 || a[0]%2 == b[0]%2 && a[0] > b[0]) },
		func(a, b []byte) uint64 { return 0 },
	}
}

// words are functions that are no orders, or answer what are no masks.
func words() []order {
	return []order{
		func(a, b []byte) uint64 { return yes },
		func(a, b []byte) uint64 { return 1 },
		func(a, b []byte) uint64 { return 0xf0 },
		func(a, b []byte) uint64 { return 1 << 63 },
		func(a, b []byte) uint64 { return yes - 0xff },
		func(a, b []byte) uint64 { return maskOf(bytes.Compare(a, b) <= 0) },
		func(a, b []byte) uint64 { return uint64(a[0])<<3 ^ uint64(b[len(b)-1])*0x10001 },
		func(a, b []byte) uint64 { return ^record.ByIndex(a, b) },
	}
}

// drawnRecords have the Indexes from 0 on, Groups of which there are few, and bodies of so many bytes.
func drawnRecords(source *rand.Rand, n, groups, body int) [][]byte {
	var lists [][]byte
	for i := range n {
		h := api.Head{Live: uint8(source.Intn(2)), Flag: uint8(source.Intn(2)), Index: uint32(i), Rank: source.Uint32()}
		binary.BigEndian.PutUint32(h.Group[source.Intn(2)*12:], uint32(source.Intn(groups)))
		bytesOfBody := make([]byte, body)
		source.Read(bytesOfBody)
		lists = append(lists, record.Make(h, bytesOfBody))
	}
	return lists
}

// drawnLists need be no records; a few bytes alone are in them, so that many are alike.
func drawnLists(source *rand.Rand, n, size, most int) [][]byte {
	var lists [][]byte
	for range n {
		list := make([]byte, size)
		for k := range list {
			list[k] = byte(source.Intn(most))
		}
		lists = append(lists, list)
	}
	return lists
}

// shuffled is the lists in a drawn order.
func shuffled(source *rand.Rand, lists [][]byte) [][]byte {
	mixed := slices.Clone(lists)
	source.Shuffle(len(mixed), func(i, j int) { mixed[i], mixed[j] = mixed[j], mixed[i] })
	return mixed
}

// indexesOf are those of records.
func indexesOf(t *testing.T, lists [][]byte) []int {
	t.Helper()
	var indexes []int
	for _, list := range lists {
		h, _, err := record.Parse(list)
		if err != api.OK {
			t.Fatalf("Parse: %d", err)
		}
		indexes = append(indexes, int(h.Index))
	}
	return indexes
}
