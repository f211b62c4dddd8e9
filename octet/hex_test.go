package octet

import (
	"bytes"
	"encoding/hex"
	"slices"
	"strings"
	"testing"

	"tryst/api"
)

// P2.6, P2.7: every byte, alone and all of them in a row.
func TestHexOfAllBytes(t *testing.T) {
	all := []byte{}
	for v := range 256 {
		all = append(all, byte(v))
		checkHex(t, []byte{byte(v)})
	}
	checkHex(t, all)
	checkHex(t, bytes.Repeat(all, 20))
}

func checkHex(t *testing.T, b []byte) {
	t.Helper()
	text := Hex(b)
	if text != hex.EncodeToString(b) {
		t.Errorf("Hex(%v) = %q", b, text)
	}
	if got, e := Unhex(text); e != api.OK || !bytes.Equal(got, b) {
		t.Errorf("Unhex(%q) = %v, %d", text, got, e)
	}
}

// P2.6, R4
func TestHexOfNothing(t *testing.T) {
	for _, b := range [][]byte{nil, {}} {
		if text := Hex(b); text != "" {
			t.Errorf("Hex of nothing = %q", text)
		}
	}
	if b, e := Unhex(""); len(b) != 0 || e != api.OK {
		t.Errorf("Unhex of nothing = %v, %d", b, e)
	}
}

// P2.6: every sign at either place: only sixteen are digits.
func TestUnhexOfAllSigns(t *testing.T) {
	for sign := range 256 {
		value := strings.IndexByte("0123456789abcdef", byte(sign))
		for place, text := range []string{string([]byte{byte(sign), '5'}), string([]byte{'5', byte(sign)})} {
			b, e := Unhex(text)
			if value < 0 {
				if b != nil || e != api.ErrHex {
					t.Errorf("Unhex(%q) = %v, %d", text, b, e)
				}
				continue
			}
			want := byte([]int{value<<4 | 5, 5<<4 | value}[place])
			if !bytes.Equal(b, []byte{want}) || e != api.OK {
				t.Errorf("Unhex(%q) = %v, %d, want %d", text, b, e, want)
			}
		}
	}
}

// P2.6: odd numbers of digits; a wrong sign anywhere; signs of more than one byte.
func TestUnhexRefuses(t *testing.T) {
	for _, text := range []string{
		"0", "abc", "00112", "g", "AB", "aB", "Ab", "00aA", "0x", "0x12", " 12", "12 ", "1 2 ", "é", "00é", "１２", "-1", "+1", "\x0012",
	} {
		if b, e := Unhex(text); b != nil || e != api.ErrHex {
			t.Errorf("Unhex(%q) = %v, %d", text, b, e)
		}
	}
	right := strings.Repeat("a", 40)
	for place := range right {
		for _, wrong := range []string{"A", "g", "/", ":", "`"} {
			text := right[:place] + wrong + right[place+1:]
			if b, e := Unhex(text); b != nil || e != api.ErrHex {
				t.Errorf("Unhex(%q) = %v, %d", text, b, e)
			}
		}
	}
}

// P2.6, R5
func TestHexLeavesBytesAlone(t *testing.T) {
	b := []byte{0, 171, 16}
	Hex(b)
	if !slices.Equal(b, []byte{0, 171, 16}) {
		t.Errorf("bytes have changed: %v", b)
	}
	first, _ := Unhex("00ab10")
	second, _ := Unhex("00ab10")
	first[0] = 9
	if second[0] != 0 {
		t.Errorf("two answers share")
	}
}
