package record

import (
	"bytes"
	"slices"
	"testing"

	"tryst/api"
)

func maskOf(holds bool) uint64 {
	if holds {
		return 1<<64 - 1
	}
	return 0
}

// isRecord is the chapter's word, as it is written there.
func isRecord(b []byte) bool {
	return len(b) >= 26 && (b[0] == 0 || b[0] == 1) && (b[1] == 0 || b[1] == 1)
}

func isLive(b []byte) bool { return b[0] == 1 }

func indexOf(b []byte) int { return int(b[2]) + int(b[3])<<8 + int(b[4])<<16 + int(b[5])<<24 }

func groupOf(b []byte) []byte { return b[10:26] }

// standsAhead is of two records, by group, as the chapter says it.
func standsAhead(a, b []byte) bool {
	switch {
	case isLive(a) && !isLive(b):
		return true
	case isLive(a) && isLive(b):
		order := bytes.Compare(groupOf(a), groupOf(b))
		return order < 0 || order == 0 && indexOf(a) < indexOf(b)
	case !isLive(a) && !isLive(b):
		return indexOf(a) < indexOf(b)
	}
	return false
}

// checkPair holds all that is asked of two lists to the chapter's words.
func checkPair(t *testing.T, a, b []byte) {
	t.Helper()
	both := isRecord(a) && isRecord(b)
	if got, want := ByGroup(a, b), maskOf(both && standsAhead(a, b)); got != want {
		t.Fatalf("ByGroup(% x, % x) = %#x, want %#x", a, b, got, want)
	}
	if got, want := ByIndex(a, b), maskOf(both && indexOf(a) < indexOf(b)); got != want {
		t.Fatalf("ByIndex(% x, % x) = %#x, want %#x", a, b, got, want)
	}
	if got, want := Together(a, b), maskOf(both && isLive(a) && isLive(b) && bytes.Equal(groupOf(a), groupOf(b))); got != want {
		t.Fatalf("Together(% x, % x) = %#x, want %#x", a, b, got, want)
	}
}

// edgeRecords are unlike in all that an order looks at, and in Flag, Rank and body, at which none looks.
func edgeRecords() [][]byte {
	var records [][]byte
	for i, group := range edgeGroups() {
		for j, index := range edgeNumbers() {
			for live := range uint8(2) {
				h := api.Head{Live: live, Flag: uint8(i+j) & 1, Index: index, Rank: uint32(i*j) ^ 0xf0000000, Group: group}
				records = append(records, laid(h, bytes.Repeat([]byte{byte(7 * i)}, (i+j)%3)...))
			}
		}
	}
	return records
}

// noRecords are too short, or have a Live or a Flag above 1.
func noRecords() [][]byte {
	lists := [][]byte{nil, {}, {1}, {1, 0}, exampleBytes()[:25], make([]byte, 25)}
	for _, bits := range [][2]uint8{{2, 0}, {2, 1}, {0, 2}, {1, 2}, {2, 2}, {3, 1}, {255, 0}, {255, 1}, {0, 255}, {1, 255}, {255, 255}, {129, 0}, {1, 128}} {
		h := exampleHead()
		h.Live, h.Flag = bits[0], bits[1]
		lists = append(lists, laid(h), laid(h, 5, 6))
	}
	return lists
}

// P14.4, P14.5: every two of them, both ways round, and each with itself.
func TestOrders(t *testing.T) {
	records := edgeRecords()
	for _, a := range records {
		for _, b := range records {
			checkPair(t, a, b)
		}
		if got, want := Live(a), maskOf(isLive(a)); got != want {
			t.Fatalf("Live(% x) = %#x, want %#x", a, got, want)
		}
	}
}

// P14.4, P14.5: what is no record stands ahead of nothing and behind nothing, on either side and on both.
func TestOrdersOfWhatIsNoRecord(t *testing.T) {
	high := laid(api.Head{Live: 1, Index: 1<<32 - 1, Group: api.Drop(bytes.Repeat([]byte{255}, 16))})
	records := [][]byte{exampleBytes(), high, laid(api.Head{}), laid(api.Head{Index: 1<<32 - 1}), laid(api.Head{Live: 1})}
	wrong := noRecords()
	for _, a := range wrong {
		for _, b := range append(slices.Clone(records), wrong...) {
			for i, got := range []uint64{ByGroup(a, b), ByGroup(b, a), ByIndex(a, b), ByIndex(b, a), Together(a, b), Together(b, a)} {
				if got != 0 {
					t.Fatalf("call %d of % x, % x: %#x", i, a, b, got)
				}
			}
		}
		if got := Live(a); got != 0 {
			t.Fatalf("Live(% x) = %#x", a, got)
		}
	}
}

// P14.4, P14.5: each place of a Group counts, the first unlike one alone decides.
func TestGroupsByteByByte(t *testing.T) {
	for place := range api.DropSize {
		for _, values := range [][2]byte{{0, 1}, {127, 128}, {254, 255}, {0, 255}} {
			low, high := api.Head{Live: 1, Index: 9}, api.Head{Live: 1, Index: 3}
			low.Group[place], high.Group[place] = values[0], values[1]
			// All places behind speak against the first unlike one.
			for behind := place + 1; behind < api.DropSize; behind++ {
				low.Group[behind], high.Group[behind] = 255, 0
			}
			a, b := laid(low), laid(high)
			checkPair(t, a, b)
			if ByGroup(a, b) != 1<<64-1 || ByGroup(b, a) != 0 || Together(a, b) != 0 {
				t.Fatalf("place %d of %v: %#x, %#x, %#x", place, values, ByGroup(a, b), ByGroup(b, a), Together(a, b))
			}
		}
	}
}

// P14.5: each byte of an Index counts, the highest first.
func TestIndexesByteByByte(t *testing.T) {
	for place := range 4 {
		for live := range uint8(2) {
			low := api.Head{Live: live, Group: api.Drop{5}, Index: 1<<(8*place) - 1}
			high := api.Head{Live: live, Group: api.Drop{5}, Index: 1 << (8 * place)}
			a, b := laid(low), laid(high)
			checkPair(t, a, b)
			if ByIndex(a, b) != 1<<64-1 || ByIndex(b, a) != 0 || ByGroup(a, b) != 1<<64-1 || ByGroup(b, a) != 0 {
				t.Fatalf("place %d, Live %d", place, live)
			}
		}
	}
}

// P14.5: of dead ones the Group is not asked, nor is it of a dead and a live one.
func TestGroupsOfTheDead(t *testing.T) {
	for _, group := range edgeGroups() {
		a := laid(api.Head{Index: 4, Group: group})
		b := laid(api.Head{Index: 5})
		live := laid(api.Head{Live: 1, Index: 1<<32 - 1, Group: api.Drop(bytes.Repeat([]byte{255}, 16))})
		if ByGroup(a, b) != 1<<64-1 || ByGroup(b, a) != 0 || ByGroup(live, a) != 1<<64-1 || ByGroup(a, live) != 0 {
			t.Fatalf("dead ones of the Group %v", group)
		}
		if Together(a, a) != 0 || Together(a, laid(api.Head{Live: 1, Group: group})) != 0 || Together(laid(api.Head{Live: 1, Group: group}), a) != 0 {
			t.Fatalf("a dead one of the Group %v is together", group)
		}
	}
}

// P14.6: no record ahead of itself, of two at most one, of two with unlike Indexes just one.
func TestOrdersOfTwo(t *testing.T) {
	records := edgeRecords()
	for _, order := range []func(a, b []byte) uint64{ByGroup, ByIndex} {
		for i, a := range records {
			if order(a, a) != 0 || order(a, slices.Clone(a)) != 0 {
				t.Fatalf("record %d stands ahead of itself", i)
			}
			for j, b := range records {
				there, back := order(a, b), order(b, a)
				if there&back != 0 {
					t.Fatalf("records %d, %d stand ahead of each other", i, j)
				}
				if indexOf(a) != indexOf(b) && there^back != 1<<64-1 {
					t.Fatalf("records %d, %d: %#x, %#x", i, j, there, back)
				}
			}
		}
	}
}

// P14.6: of three the order goes on.
func TestOrdersOfThree(t *testing.T) {
	var records [][]byte
	for i, b := range edgeRecords() {
		if i%5 < 2 {
			records = append(records, b)
		}
	}
	for _, order := range []func(a, b []byte) uint64{ByGroup, ByIndex} {
		ahead := make([][]uint64, len(records))
		for i, a := range records {
			for _, b := range records {
				ahead[i] = append(ahead[i], order(a, b))
			}
		}
		for i := range records {
			for j := range records {
				for k := range records {
					if ahead[i][j]&ahead[j][k]&^ahead[i][k] != 0 {
						t.Fatalf("records %d, %d, %d: the order does not go on", i, j, k)
					}
				}
			}
		}
	}
}

// P14.6: sorted by group, the live ones of one Group stand together, and all live ones ahead of the dead.
func TestSortedByGroup(t *testing.T) {
	records := edgeRecords()
	slices.SortFunc(records, func(a, b []byte) int { return int(ByGroup(b, a)&1) - int(ByGroup(a, b)&1) })
	for i := 1; i < len(records); i++ {
		a, b := records[i-1], records[i]
		if standsAhead(b, a) || !isLive(a) && isLive(b) {
			t.Fatalf("% x stands behind % x", b, a)
		}
	}
	sorted := bytes.Join(records, nil)
	slices.SortFunc(records, func(a, b []byte) int { return int(ByIndex(b, a)&1) - int(ByIndex(a, b)&1) })
	for i := 1; i < len(records); i++ {
		if indexOf(records[i]) < indexOf(records[i-1]) {
			t.Fatalf("% x stands behind % x", records[i], records[i-1])
		}
	}
	if len(bytes.Join(records, nil)) != len(sorted) {
		t.Fatal("some were lost")
	}
}
