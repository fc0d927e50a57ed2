package tests

import (
	"encoding/binary"
	"encoding/hex"
	"math"
	"strconv"
	"strings"
	"testing"

	"loop.example/g01922/impl"
)

func checkFixed(t *testing.T, s string, width int, wantN int, wantOk bool) {
	t.Helper()
	if n, ok := impl.DecodeFixed(s, width); n != wantN || ok != wantOk {
		t.Errorf("DecodeFixed(%q, %d) = %d, %v; want %d, %v", s, width, n, ok, wantN, wantOk)
	}
}

func checkVarint(t *testing.T, s string, wantN int, wantLength int) {
	t.Helper()
	if n, length := impl.DecodeVarint(s); n != wantN || length != wantLength {
		t.Errorf("DecodeVarint(%q) = %d, %d; want %d, %d", s, n, length, wantN, wantLength)
	}
}

func checkHex(t *testing.T, s string, want string, wantOk bool) {
	t.Helper()
	if d, ok := impl.DecodeHex(s); d != want || ok != wantOk {
		t.Errorf("DecodeHex(%q) = %q, %v; want %q, %v", s, d, ok, want, wantOk)
	}
}

func checkParsed(t *testing.T, s string, wantN int, wantOk bool) {
	t.Helper()
	if n, ok := impl.ParseInt(s); n != wantN || ok != wantOk {
		t.Errorf("ParseInt(%q) = %d, %v; want %d, %v", s, n, ok, wantN, wantOk)
	}
}

// eachString calls f for all strings of at most length bytes of the alphabet.
func eachString(alphabet string, length int, f func(s string)) {
	layer := []string{""}
	for {
		for _, s := range layer {
			f(s)
		}
		if length == 0 {
			return
		}
		length--
		next := make([]string, 0, len(layer)*len(alphabet))
		for _, s := range layer {
			for i := range len(alphabet) {
				next = append(next, s+alphabet[i:i+1])
			}
		}
		layer = next
	}
}

// eachStringNear calls f for the strings that have any byte inserted or replaced in any place, or one left out, and for all beginnings and ends.
func eachStringNear(s string, f func(s string)) {
	for place := range len(s) + 1 {
		before, after, next := s[:place], s[place:], s[min(place+1, len(s)):]
		for _, c := range []byte(allBytes()) {
			f(before + string([]byte{c}) + after)
			f(before + string([]byte{c}) + next)
		}
		f(before)
		f(after)
		f(before + next)
	}
}

func allBytes() string {
	b := make([]byte, 256)
	for i := range b {
		b[i] = byte(i)
	}
	return string(b)
}

// nearPowers returns the numbers next to the powers of two and of ten, negative ones included.
func nearPowers() []int {
	list := []int{0, math.MinInt, math.MaxInt}
	for shift := range 63 {
		list = append(list, 1<<shift-1, 1<<shift, 1<<shift+1, -(1 << shift), -(1<<shift + 1))
	}
	for p := 1; p < math.MaxInt/10; p *= 10 {
		list = append(list, p-1, p, p+1, 1-p, -p, -p-1)
	}
	return list
}

func bigEndian(n int, width int) string {
	return string(binary.BigEndian.AppendUint64(nil, uint64(n))[8-width:])
}

func TestEncodeFixed(t *testing.T) {
	cases := []struct {
		n, width int
		want     string
	}{
		{258, 2, "\x01\x02"},
		{0, 1, "\x00"},
		{255, 1, "\xff"},
		{7, 3, "\x00\x00\x07"},
		{0x0102030405, 5, "\x01\x02\x03\x04\x05"},
		{0x01020304050607, 7, "\x01\x02\x03\x04\x05\x06\x07"},
		{1<<56 - 1, 7, "\xff\xff\xff\xff\xff\xff\xff"},
		{256, 1, ""},
		{1 << 16, 2, ""},
		{1 << 56, 7, ""},
		{math.MaxInt, 7, ""},
		{-1, 3, ""},
		{-1, 7, ""},
		{math.MinInt, 7, ""},
		{0, 0, ""},
		{1, 8, ""},
		{1, 9, ""},
		{1, 64, ""},
		{1, -1, ""},
		{1, math.MinInt, ""},
		{1, math.MaxInt, ""},
	}
	for _, c := range cases {
		if s := impl.EncodeFixed(c.n, c.width); s != c.want {
			t.Errorf("EncodeFixed(%d, %d) = %q; want %q", c.n, c.width, s, c.want)
		}
	}
}

func TestFixedRoundTrip(t *testing.T) {
	for _, n := range nearPowers() {
		for width := 1; width <= 7; width++ {
			s := impl.EncodeFixed(n, width)
			if n < 0 || n >= 1<<(8*width) {
				if s != "" {
					t.Errorf("EncodeFixed(%d, %d) = %q, but the number does not fit", n, width, s)
				}
				continue
			}
			if s != bigEndian(n, width) {
				t.Errorf("EncodeFixed(%d, %d) = %q", n, width, s)
			}
			checkFixed(t, s, width, n, true)
			checkFixed(t, s+"\xff", width, n, true)
			checkFixed(t, s[1:], width, 0, false)
		}
	}
}

func TestDecodeFixedInvalid(t *testing.T) {
	long := strings.Repeat("\x01", 70)
	for _, width := range []int{0, 8, 9, 64, -1, math.MinInt, math.MaxInt} {
		checkFixed(t, long, width, 0, false)
		checkFixed(t, "", width, 0, false)
	}
	for width := 1; width <= 7; width++ {
		checkFixed(t, "", width, 0, false)
		checkFixed(t, long[:width-1], width, 0, false)
	}
	checkFixed(t, "a", 2, 0, false)
}

// Every string of the right length is the format of some number.
func TestDecodeFixedIsInverse(t *testing.T) {
	eachString(allBytes(), 2, func(s string) {
		if s == "" {
			return
		}
		n, ok := impl.DecodeFixed(s, len(s))
		if !ok || impl.EncodeFixed(n, len(s)) != s {
			t.Fatalf("DecodeFixed(%q, %d) = %d, %v", s, len(s), n, ok)
		}
	})
	eachString("\x00\x7f\x80\xff", 7, func(s string) {
		if n, ok := impl.DecodeFixed(s, len(s)); ok != (s != "") || impl.EncodeFixed(n, len(s)) != s {
			t.Fatalf("DecodeFixed(%q, %d) = %d, %v", s, len(s), n, ok)
		}
	})
}

func TestEncodeVarint(t *testing.T) {
	if impl.MaxVarint != 1<<49-1 {
		t.Errorf("MaxVarint = %d", impl.MaxVarint)
	}
	cases := []struct {
		n    int
		want string
	}{
		{0, "\x00"},
		{1, "\x01"},
		{127, "\x7f"},
		{128, "\x80\x01"},
		{300, "\xac\x02"},
		{16383, "\xff\x7f"},
		{16384, "\x80\x80\x01"},
		{impl.MaxVarint, "\xff\xff\xff\xff\xff\xff\x7f"},
		{impl.MaxVarint + 1, ""},
		{math.MaxInt, ""},
		{-1, ""},
		{-300, ""},
		{math.MinInt, ""},
	}
	for _, c := range cases {
		if s := impl.EncodeVarint(c.n); s != c.want {
			t.Errorf("EncodeVarint(%d) = %q; want %q", c.n, s, c.want)
		}
	}
}

func checkVarintRoundTrip(t *testing.T, n int) {
	t.Helper()
	s := impl.EncodeVarint(n)
	if n < 0 || n > impl.MaxVarint {
		if s != "" {
			t.Errorf("EncodeVarint(%d) = %q, but the number is out of range", n, s)
		}
		return
	}
	if s != string(binary.AppendUvarint(nil, uint64(n))) {
		t.Errorf("EncodeVarint(%d) = %q", n, s)
	}
	checkVarint(t, s, n, len(s))
	for _, rest := range []string{"\x00", "\x01", "\x7f", "\x80", "\xff", s} {
		checkVarint(t, s+rest, n, len(s))
	}
	for i := range len(s) {
		checkVarint(t, s[:i], 0, 0)
	}
}

func TestVarintRoundTrip(t *testing.T) {
	for _, n := range nearPowers() {
		checkVarintRoundTrip(t, n)
	}
	for n := range 40000 {
		checkVarintRoundTrip(t, n)
	}
}

func TestDecodeVarintUnnecessaryBytes(t *testing.T) {
	for _, n := range []int{0, 1, 127, 128, 300, 16383, 16384, 1<<42 - 1, 1 << 42, impl.MaxVarint} {
		s := []byte(impl.EncodeVarint(n))
		s[len(s)-1] |= 128
		padded := string(s)
		for range 9 {
			checkVarint(t, padded+"\x00", 0, 0)
			checkVarint(t, padded+"\x00\x01", 0, 0)
			padded += "\x80"
		}
	}
}

func TestDecodeVarintInvalid(t *testing.T) {
	for _, s := range []string{
		"",
		"\x80",
		"\xff\xff",
		"\xff\xff\xff\xff\xff\xff",
		"\xff\xff\xff\xff\xff\xff\xff",
		"\xff\xff\xff\xff\xff\xff\xff\xff",
		"\x80\x80\x80\x80\x80\x80\x80\x01",
		"\xff\xff\xff\xff\xff\xff\xff\x01",
		"\xff\xff\xff\xff\xff\xff\xff\x7f",
		"\x80\x80\x80\x80\x80\x80\x80\x80\x01",
		"\xff\xff\xff\xff\xff\xff\xff\xff\x7f",
		"\x81\x80\x80\x80\x80\x80\x80\x80\x80\x01",
		strings.Repeat("\x80", 100) + "\x01",
		strings.Repeat("\xff", 100),
	} {
		checkVarint(t, s, 0, 0)
	}
}

// varintLength finds the varint at the start of s by the form of its bytes alone.
func varintLength(s string) int {
	for i := 0; i < len(s) && i < 7; i++ {
		if s[i] < 128 {
			if i > 0 && s[i] == 0 {
				return 0
			}
			return i + 1
		}
	}
	return 0
}

func checkVarintAccepted(t *testing.T, s string) {
	t.Helper()
	n, length := impl.DecodeVarint(s)
	if length != varintLength(s) || length == 0 && n != 0 || length > 0 && impl.EncodeVarint(n) != s[:length] {
		t.Fatalf("DecodeVarint(%q) = %d, %d", s, n, length)
	}
}

func TestDecodeVarintAcceptsNothingElse(t *testing.T) {
	eachString(allBytes(), 2, func(s string) { checkVarintAccepted(t, s) })
	eachString("\x00\x01\x7f\x80\xff", 8, func(s string) { checkVarintAccepted(t, s) })
}

func TestHex(t *testing.T) {
	checkHex(t, "61ff", "a\xff", true)
	checkHex(t, "", "", true)
	checkHex(t, "0123456789abcdef", "\x01\x23\x45\x67\x89\xab\xcd\xef", true)
	if s := impl.EncodeHex("a\xff"); s != "61ff" {
		t.Errorf("EncodeHex = %q", s)
	}
	if s := impl.EncodeHex(""); s != "" {
		t.Errorf("EncodeHex of the empty string = %q", s)
	}
	eachString(allBytes(), 2, func(s string) {
		h := impl.EncodeHex(s)
		if h != hex.EncodeToString([]byte(s)) {
			t.Fatalf("EncodeHex(%q) = %q", s, h)
		}
		checkHex(t, h, s, true)
	})
	for _, s := range []string{allBytes(), strings.Repeat("\x00", 300), "caf\u00e9 \u65e5\u672c"} {
		checkHex(t, impl.EncodeHex(s), s, true)
	}
}

func TestDecodeHexInvalid(t *testing.T) {
	for _, s := range []string{
		"6F", "F6", "FF", "6f6F", "A0",
		"6", "6f6", "61f", "a",
		"0x", "g0", "0g", "/0", "0:", "`0", "@0", " 61", "61 ", "6 1f", "-1", "+1",
		"\u00e9", "6\u00e9f", "\uff11\uff12", "61\u0661", "61\u0161", "\xff\xff", "6\x00", "61\n0",
	} {
		checkHex(t, s, "", false)
	}
}

func isLowerHex(s string) bool {
	return len(s)%2 == 0 && strings.Trim(s, "0123456789abcdef") == ""
}

func TestDecodeHexAcceptsNothingElse(t *testing.T) {
	check := func(s string) {
		d, ok := impl.DecodeHex(s)
		if ok != isLowerHex(s) || ok && impl.EncodeHex(d) != s || !ok && d != "" {
			t.Fatalf("DecodeHex(%q) = %q, %v", s, d, ok)
		}
	}
	eachString(allBytes(), 2, check)
	eachString("09afAF/:`g\xc3\xa9", 5, check)
}

func TestFormatInt(t *testing.T) {
	for n, want := range map[int]string{
		0: "0", 7: "7", -7: "-7", 10: "10", -120: "-120", 1000000000: "1000000000",
		math.MaxInt: "9223372036854775807", math.MinInt: "-9223372036854775808",
	} {
		if s := impl.FormatInt(n); s != want {
			t.Errorf("FormatInt(%d) = %q; want %q", n, s, want)
		}
	}
	for _, n := range nearPowers() {
		if s := impl.FormatInt(n); s != strconv.FormatInt(int64(n), 10) {
			t.Errorf("FormatInt(%d) = %q", n, s)
		}
	}
}

func TestParseIntRoundTrip(t *testing.T) {
	check := func(n int) {
		if n >= -999999999 && n <= 999999999 {
			checkParsed(t, impl.FormatInt(n), n, true)
		} else {
			checkParsed(t, impl.FormatInt(n), 0, false)
		}
	}
	for _, n := range nearPowers() {
		check(n)
	}
	for n := -1100; n <= 1100; n++ {
		check(n)
	}
	checkParsed(t, "-7", -7, true)
	checkParsed(t, "999999999", 999999999, true)
	checkParsed(t, "-999999999", -999999999, true)
}

func TestParseIntInvalid(t *testing.T) {
	for _, s := range []string{
		"", "-", "+", "+1", "+0", "-+1", "+-1", "--", "--1",
		"07", "00", "-07", "-0", "-00", "000000001", "0000000001",
		"1000000000", "-1000000000", "9999999999", "18446744073709551617", "-18446744073709551617",
		"9223372036854775807", "-9223372036854775808", strings.Repeat("1", 1000),
		" 1", "1 ", "1 2", "- 1", "1-", "1_000", "1,000", "1.0", "1e3", "0x1", "a", "1a", "/", ":", "1\n", "1\x00",
		"\u0661", "\uff11", "1\u00e9", "\xff", "\u2212" + "1",
	} {
		checkParsed(t, s, 0, false)
	}
}

func TestParseIntAcceptsNothingElse(t *testing.T) {
	check := func(s string) {
		n, ok := impl.ParseInt(s)
		std, err := strconv.Atoi(s)
		want := err == nil && strconv.Itoa(std) == s
		if ok != want || ok && n != std || !ok && n != 0 {
			t.Fatalf("ParseInt(%q) = %d, %v", s, n, ok)
		}
	}
	eachString(allBytes(), 2, check)
	eachString("019-+ _/:", 5, check)
}
