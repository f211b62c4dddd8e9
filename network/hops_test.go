package network

import (
	"math"
	"slices"
	"testing"
)

// P16.4: hop by hop, of every small number, and of some great ones.
func TestHops(t *testing.T) {
	numbers := []int{511, 512, 513, 4095, 4096, 4097, 10000, 32767, 32768, 32769, 65535, 65536}
	for n := range 300 {
		numbers = append(numbers, n)
	}
	for _, n := range numbers {
		want := hopsOf(n)
		at := 0
		for h := range Hops(n) {
			if at == len(want) || h != want[at] {
				t.Fatalf("the hop %d of Hops(%d) is %v", at, n, h)
			}
			at++
		}
		if at != len(want) {
			t.Fatalf("Hops(%d) gives %d hops, want %d", n, at, len(want))
		}
	}
}

// P16.4: below 2 and above MaxPages there is none; the iterator is there all the same.
func TestNoHops(t *testing.T) {
	for _, n := range []int{1, 0, -1, -2, -3, -65536, 65537, 65538, 131072, 1 << 30, math.MaxInt32, math.MinInt32, math.MaxInt, math.MaxInt - 1, math.MaxInt/2 + 1, math.MinInt, math.MinInt + 1} {
		seq := Hops(n)
		if seq == nil {
			t.Fatalf("Hops(%d) is nil", n)
		}
		for h := range seq {
			t.Fatalf("Hops(%d) gives %v", n, h)
		}
	}
}

// P16.4: from each place a hop leads to a lower one, and every bit of every way has one.
func TestHopsLeadDown(t *testing.T) {
	for n := 2; n < 130; n++ {
		hops := slices.Collect(Hops(n))
		for way := 1; way < n; way++ {
			for d := 1; d <= way; d *= 2 {
				if way&d == 0 {
					continue
				}
				found := 0
				for _, h := range hops {
					if h.To < 0 || h.To >= h.From || h.From >= n {
						t.Fatalf("Hops(%d) gives %v", n, h)
					}
					if h.From == n-1 && h.From-h.To == d {
						found++
					}
				}
				if found != 1 {
					t.Fatalf("Hops(%d) gives %d hops by %d from the last place", n, found, d)
				}
			}
		}
	}
}
