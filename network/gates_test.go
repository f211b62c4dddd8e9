package network

import (
	"slices"
	"testing"

	"tryst/api"
)

// P16.2: gate by gate, of every size.
func TestBitonic(t *testing.T) {
	for _, n := range sizes() {
		want := slices.Concat(gatesOf(n)...)
		at := 0
		for g := range Bitonic(n) {
			if at == len(want) || g != want[at] {
				t.Fatalf("the gate %d of Bitonic(%d) is %v", at, n, g)
			}
			at++
		}
		if at != len(want) {
			t.Fatalf("Bitonic(%d) gives %d gates, want %d", n, at, len(want))
		}
	}
}

// P16.2, P16.3: of what is no size there is neither a gate nor a row; the iterator is there all the same.
func TestNoGates(t *testing.T) {
	for _, n := range append(noSizes(), 3) {
		seq := Bitonic(n)
		if seq == nil {
			t.Fatalf("Bitonic(%d) is nil", n)
		}
		for g := range seq {
			t.Fatalf("Bitonic(%d) gives %v", n, g)
		}
		if rows := Layers(n); len(rows) != 0 {
			t.Fatalf("Layers(%d) has %d rows", n, len(rows))
		}
	}
	if rows := Layers(1); len(rows) != 0 || Bitonic(1) == nil {
		t.Errorf("Layers(1) = %v", rows)
	}
}

// P16.3: the gates of Bitonic in their order, in rows of n/2.
func TestLayers(t *testing.T) {
	for _, n := range sizes() {
		want := gatesOf(n)
		rows := Layers(n)
		if len(rows) != len(want) {
			t.Fatalf("Layers(%d) has %d rows, want %d", n, len(rows), len(want))
		}
		for r, row := range rows {
			if len(row) != n/2 || !slices.Equal(row, want[r]) {
				t.Fatalf("the row %d of Layers(%d), of %d gates, is another", r, n, len(row))
			}
		}
	}
}

// P16.8: in each row each place stands just once.
func TestEachPlaceOnce(t *testing.T) {
	for _, n := range sizes() {
		for r, row := range Layers(n) {
			stands := make([]int, n)
			for _, g := range row {
				stands[g.Low]++
				stands[g.High]++
			}
			for place, times := range stands {
				if times != 1 {
					t.Fatalf("in the row %d of Layers(%d) the place %d stands %d times", r, n, place, times)
				}
			}
		}
	}
}

// R5: rows that are written over, up to the end of their room, are neither one another nor those of the next answer.
func TestRowsAreTheirOwn(t *testing.T) {
	for _, n := range []int{2, 4, 16, 64} {
		want := gatesOf(n)
		rows := Layers(n)
		for r := range rows {
			row := rows[r][:cap(rows[r])]
			for i := range row {
				row[i] = api.Gate{Low: -1, High: -1}
			}
			for later := r + 1; later < len(rows); later++ {
				if !slices.Equal(rows[later], want[later]) {
					t.Fatalf("of Layers(%d) the rows %d and %d are one", n, r, later)
				}
			}
			rows[r] = nil
		}
		again := Layers(n)
		if !slices.EqualFunc(again, want, slices.Equal[[]api.Gate]) {
			t.Fatalf("Layers(%d), asked again, is %v", n, again)
		}
	}
}
