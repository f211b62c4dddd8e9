package octet

import "tryst/api"

const digits = "0123456789abcdef"

func Hex(b []byte) string {
	text := make([]byte, 0, 2*len(b))
	for _, v := range b {
		text = append(text, digits[v>>4], digits[v&15])
	}
	return string(text)
}

func Unhex(s string) ([]byte, api.Errno) {
	if len(s)%2 != 0 {
		return nil, api.ErrHex
	}
	out := make([]byte, 0, len(s)/2)
	for i := 0; i < len(s); i += 2 {
		high, highOK := digitOf(s[i])
		low, lowOK := digitOf(s[i+1])
		if !highOK || !lowOK {
			return nil, api.ErrHex
		}
		out = append(out, high<<4|low)
	}
	return out, api.OK
}

// digitOf knows no capitals: of each row of bytes just one text is the Hex.
func digitOf(sign byte) (byte, bool) {
	switch {
	case '0' <= sign && sign <= '9':
		return sign - '0', true
	case 'a' <= sign && sign <= 'f':
		return sign - 'a' + 10, true
	}
	return 0, false
}
