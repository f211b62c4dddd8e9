package network

import (
	"math"
	"slices"

	"tryst/api"
)

// The chapter's words, written as plainly as can be, for the tests to hold the package to.

// sizes are all that there are.
func sizes() []int {
	var all []int
	for n := 1; n <= 65536; n *= 2 {
		all = append(all, n)
	}
	return all
}

func smallSizes() []int { return []int{1, 2, 4, 8, 16, 32, 64, 128, 256} }

// noSizes are numbers around the sizes, and far from them.
func noSizes() []int {
	none := []int{0, -1, -2, -4, -65536, 5, 6, 7, 9, 12, 65537, 98304, 131072, 1 << 30, math.MaxInt32, math.MinInt32, math.MaxInt, math.MaxInt - 1, math.MinInt, math.MinInt + 1, math.MaxInt/2 + 1}
	for _, n := range sizes() {
		if n >= 4 {
			none = append(none, n-1, n+1)
		}
	}
	return none
}

// gatesOf is P16.2, row by row; n is a size.
func gatesOf(n int) [][]api.Gate {
	var rows [][]api.Gate
	for k := 2; k <= n; k *= 2 {
		for j := k / 2; j >= 1; j /= 2 {
			var row []api.Gate
			for i := 0; i < n; i++ {
				other := i ^ j
				if other < i {
					continue
				}
				if (i/k)%2 == 0 {
					row = append(row, api.Gate{Low: i, High: other})
				} else {
					row = append(row, api.Gate{Low: other, High: i})
				}
			}
			rows = append(rows, row)
		}
	}
	return rows
}

// hopsOf is P16.4; n is from 1 to MaxPages.
func hopsOf(n int) []api.Hop {
	var hops []api.Hop
	for d := 1; d < n; d += d {
		for from := d; from <= n-1; from++ {
			hops = append(hops, api.Hop{From: from, To: from - d})
		}
	}
	return hops
}

// sortOf is P16.5; the number of elements is a size. Which pairs before is asked of, it tells too.
func sortOf[T any](l []T, before func(a, b T) bool) ([]T, [][2]T) {
	made := slices.Clone(l)
	var asked [][2]T
	for _, row := range gatesOf(len(l)) {
		for _, g := range row {
			high, low := made[g.High], made[g.Low]
			asked = append(asked, [2]T{high, low})
			if before(high, low) {
				made[g.High], made[g.Low] = low, high
			}
		}
	}
	return made, asked
}

// goer is an element of a list that is shifted.
type goer[T any] struct {
	element T
	live    bool
	way     int
}

// shiftOf is P16.6, of at most MaxPages elements.
func shiftOf[T any](l []T, live func(x T) bool) []T {
	var all []goer[T]
	for i, x := range l {
		g := goer[T]{element: x, live: live(x)}
		for _, ahead := range l[:i] {
			if !live(ahead) {
				g.way++
			}
		}
		all = append(all, g)
	}
	for _, h := range hopsOf(len(l)) {
		if g := all[h.From]; g.live && g.way/(h.From-h.To)%2 == 1 {
			all[h.From], all[h.To] = all[h.To], all[h.From]
		}
	}
	var made []T
	for _, g := range all {
		made = append(made, g.element)
	}
	return made
}
