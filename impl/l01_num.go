package impl

import (
	"strconv"
	"strings"
)

const MaxVarint = 562949953421311

// Seven bytes keep every number of this format below 2^56, far from the sign bit of an int.
const maxFixedWidth = 7

// Seven groups of seven bits hold exactly the numbers up to MaxVarint.
const maxVarintBytes = 7

const maxParsedDigits = 9

const hexDigits = "0123456789abcdef"

func isFixedWidth(width int) bool {
	return width >= 1 && width <= maxFixedWidth
}

func EncodeFixed(n int, width int) string {
	if !isFixedWidth(width) || n < 0 || n>>(8*width) != 0 {
		return ""
	}
	out := make([]byte, width)
	for i := range out {
		out[i] = byte(n >> (8 * (width - 1 - i)))
	}
	return string(out)
}

func DecodeFixed(s string, width int) (int, bool) {
	if !isFixedWidth(width) || len(s) < width {
		return 0, false
	}
	n := 0
	for i := range width {
		n = n<<8 | int(s[i])
	}
	return n, true
}

func EncodeVarint(n int) string {
	if n < 0 || n > MaxVarint {
		return ""
	}
	out := make([]byte, 0, maxVarintBytes)
	for ; n >= 128; n >>= 7 {
		out = append(out, byte(n&127|128))
	}
	return string(append(out, byte(n)))
}

func DecodeVarint(s string) (int, int) {
	n := 0
	for i := 0; i < len(s) && i < maxVarintBytes; i++ {
		n |= int(s[i]&127) << (7 * i)
		if s[i] >= 128 {
			continue
		}
		// A varint with unnecessary bytes has the value of a shorter one; encoding again reveals it.
		if EncodeVarint(n) != s[:i+1] {
			return 0, 0
		}
		return n, i + 1
	}
	return 0, 0
}

func EncodeHex(s string) string {
	out := make([]byte, 0, 2*len(s))
	for i := range len(s) {
		out = append(out, hexDigits[s[i]>>4], hexDigits[s[i]&15])
	}
	return string(out)
}

func DecodeHex(s string) (string, bool) {
	if len(s)%2 != 0 {
		return "", false
	}
	out := make([]byte, len(s)/2)
	// Every accepted rune is a single byte, so the position of a rune is also its number.
	for i, r := range s {
		digit, ok := hexValue(r)
		if !ok {
			return "", false
		}
		out[i/2] = out[i/2]<<4 | digit
	}
	return string(out), true
}

func hexValue(r rune) (byte, bool) {
	switch {
	case r >= '0' && r <= '9':
		return byte(r - '0'), true
	case r >= 'a' && r <= 'f':
		return byte(r-'a') + 10, true
	}
	return 0, false
}

func FormatInt(n int) string {
	return strconv.Itoa(n)
}

func ParseInt(s string) (int, bool) {
	digits, negative := strings.CutPrefix(s, "-")
	if len(digits) > maxParsedDigits {
		return 0, false
	}
	n := 0
	for _, r := range digits {
		if r < '0' || r > '9' {
			return 0, false
		}
		n = 10*n + int(r-'0')
	}
	if negative {
		n = -n
	}
	// Formatting again rejects missing digits, leading zeros and a negative zero.
	if FormatInt(n) != s {
		return 0, false
	}
	return n, true
}
