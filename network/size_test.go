package network

import (
	"testing"
)

// P16.1: the least size that is not below n, of every n from below the first to behind the last.
func TestPad(t *testing.T) {
	size := 1
	for n := 1; n <= 65536; n++ {
		if n > size {
			size *= 2
		}
		if got := Pad(n); got != size {
			t.Fatalf("Pad(%d) = %d, want %d", n, got, size)
		}
	}
	for n := -70000; n < 1; n++ {
		if got := Pad(n); got != 0 {
			t.Fatalf("Pad(%d) = %d", n, got)
		}
	}
	for n := 65537; n < 140000; n++ {
		if got := Pad(n); got != 0 {
			t.Fatalf("Pad(%d) = %d", n, got)
		}
	}
}

// P16.1: numbers as great as an int bears.
func TestPadOfGreatNumbers(t *testing.T) {
	for _, n := range noSizes() {
		if n < 1 || n > 65536 {
			if got := Pad(n); got != 0 {
				t.Errorf("Pad(%d) = %d", n, got)
			}
		}
	}
}

// P16.10: n or more, and below 2 n.
func TestPadIsFew(t *testing.T) {
	for n := 1; n <= 65536; n++ {
		if got := Pad(n); got < n || got >= 2*n {
			t.Fatalf("Pad(%d) = %d", n, got)
		}
	}
}

// P16.3: n/4 L (L + 1), and as many as there are.
func TestGatesOfSizes(t *testing.T) {
	for level, n := range sizes() {
		want := 0
		for l := 1; l <= level; l++ {
			want += n / 2 * l
		}
		got, counted := Gates(n), 0
		for range Bitonic(n) {
			counted++
		}
		if got != want || counted != want {
			t.Errorf("Gates(%d) = %d, Bitonic gives %d, want %d", n, got, counted, want)
		}
	}
}

// P16.3: of what is no size there is no gate.
func TestGatesOfNoSizes(t *testing.T) {
	for _, n := range append(noSizes(), 3) {
		if got := Gates(n); got != 0 {
			t.Errorf("Gates(%d) = %d", n, got)
		}
	}
	for n := -300; n < 70000; n++ {
		if isOne := n > 0 && n <= 65536 && Pad(n) == n; !isOne && Gates(n) != 0 {
			t.Fatalf("Gates(%d) = %d", n, Gates(n))
		}
	}
}
