package tests

import (
	"math"
	"slices"
	"strings"
	"testing"

	"loop.example/g01922/impl"
)

var letterNames = []string{"a", "a-", "b", "b-", "c", "c-", "0", "1", "2"}

// These numbers are no letters.
var noLetters = []int{9, 10, 12, 48, 97, 255, 256, 1 << 32, math.MaxInt, -1, -2, -9, -256, math.MinInt}

func checkLetter(t *testing.T, s string, want int, wantOk bool) {
	t.Helper()
	if letter, ok := impl.ParseLetter(s); letter != want || ok != wantOk {
		t.Fatalf("ParseLetter(%q) = %d, %v; want %d, %v", s, letter, ok, want, wantOk)
	}
}

func checkWord(t *testing.T, s string, want []int, wantOk bool) {
	t.Helper()
	if word, ok := impl.ParseWord(s); !slices.Equal(word, want) || ok != wantOk {
		t.Fatalf("ParseWord(%q) = %v, %v; want %v, %v", s, word, ok, want, wantOk)
	}
}

func checkCompared(t *testing.T, a []int, b []int, want int) {
	t.Helper()
	if order := impl.CompareWords(a, b); order != want {
		t.Errorf("CompareWords(%v, %v) = %d; want %d", a, b, order, want)
	}
	if order := impl.CompareWords(b, a); order != -want {
		t.Errorf("CompareWords(%v, %v) = %d; want %d", b, a, order, -want)
	}
}

// eachList calls f for all lists of at most length elements, which are taken from the choices.
func eachList(choices []int, length int, f func(list []int)) {
	f(nil)
	layer := [][]int{nil}
	for range length {
		next := make([][]int, 0, len(layer)*len(choices))
		for _, list := range layer {
			for _, n := range choices {
				longer := append(slices.Clone(list), n)
				f(longer)
				next = append(next, longer)
			}
		}
		layer = next
	}
}

func allLetters() []int {
	list := make([]int, impl.MaxLetters)
	for i := range list {
		list[i] = i
	}
	return list
}

// spelled writes a word by the names of its letters.
func spelled(word []int) string {
	if len(word) == 0 {
		return "()"
	}
	s := ""
	for _, letter := range word {
		s += " " + letterNames[letter]
	}
	return s[1:]
}

func TestLetterConstants(t *testing.T) {
	if impl.MaxLabels != 3 || impl.MaxValue != 2 || impl.MaxLetters != 9 || impl.MaxWord != 8 {
		t.Error("constants", impl.MaxLabels, impl.MaxValue, impl.MaxLetters, impl.MaxWord)
	}
}

func TestIsMove(t *testing.T) {
	for letter := range impl.MaxLetters {
		if impl.IsMove(letter) != (letter <= 5) {
			t.Errorf("IsMove(%d) = %v", letter, impl.IsMove(letter))
		}
	}
	for _, n := range noLetters {
		if impl.IsMove(n) {
			t.Errorf("IsMove(%d) = true", n)
		}
	}
}

func TestInverseLetter(t *testing.T) {
	for letter, want := range []int{1, 0, 3, 2, 5, 4, 6, 7, 8} {
		if n := impl.InverseLetter(letter); n != want {
			t.Errorf("InverseLetter(%d) = %d; want %d", letter, n, want)
		}
	}
	for _, n := range noLetters {
		if impl.InverseLetter(n) != n {
			t.Errorf("InverseLetter(%d) = %d; want it unchanged", n, impl.InverseLetter(n))
		}
	}
}

func TestFormatLetter(t *testing.T) {
	for letter, want := range letterNames {
		if s := impl.FormatLetter(letter); s != want {
			t.Errorf("FormatLetter(%d) = %q; want %q", letter, s, want)
		}
		checkLetter(t, want, letter, true)
	}
	for _, n := range noLetters {
		if s := impl.FormatLetter(n); s != "" {
			t.Errorf("FormatLetter(%d) = %q; want the empty string", n, s)
		}
	}
}

func TestParseLetterInvalid(t *testing.T) {
	for _, s := range []string{
		"", " ", "-", "--", "\x00", "\x00\x00", "-\x00", "\x00a", "a\x00", "a-\x00", "a\x00-", "0\x00", "2\x00",
		" a", "a ", "a -", "- a", "-a", "a--", "aa", "ab", "a+", "a\n", "A", "A-", "d", "d-", "`",
		"3", "9", "/", "0-", "2-", "-1", "00", "02", "+1", "10", "()", "a b", "a" + strings.Repeat("\x00", 256),
		"\xff", "a\xff", "\u00e4", "\u00b2", "\uff41", "a\u0332", strings.Repeat("a", 1000),
	} {
		checkLetter(t, s, 0, false)
	}
}

func TestParseLetterAcceptsNothingElse(t *testing.T) {
	check := func(s string) {
		letter := slices.Index(letterNames, s)
		checkLetter(t, s, max(letter, 0), letter >= 0)
	}
	eachString(allBytes(), 2, check)
	eachString("\x00 -abcd0123", 4, check)
}

func TestIsWord(t *testing.T) {
	for length := range 2 * impl.MaxWord {
		for letter := range impl.MaxLetters {
			word := slices.Repeat([]int{letter}, length)
			if impl.IsWord(word) != (length <= 8) {
				t.Errorf("IsWord(%v) = %v", word, impl.IsWord(word))
			}
		}
	}
	if !impl.IsWord(nil) || !impl.IsWord([]int{}) || !impl.IsWord(allLetters()[1:]) || impl.IsWord(allLetters()) {
		t.Error("the empty word, eight different letters, or nine of them")
	}
}

// A number that is no letter counts in every place of the list.
func TestIsWordWithoutLetters(t *testing.T) {
	for length := 1; length <= impl.MaxWord; length++ {
		for place := range length {
			for _, n := range noLetters {
				word := make([]int, length)
				word[place] = n
				if impl.IsWord(word) {
					t.Errorf("IsWord(%v) = true", word)
				}
				if s := impl.FormatWord(word); s != "" {
					t.Errorf("FormatWord(%v) = %q; want the empty string", word, s)
				}
			}
		}
	}
}

func TestReverseWord(t *testing.T) {
	cases := []struct{ word, want []int }{
		{nil, nil},
		{[]int{}, nil},
		{[]int{0}, []int{1}},
		{[]int{8}, []int{8}},
		{[]int{0, 3, 7}, []int{7, 2, 1}},
		{[]int{0, 1}, []int{0, 1}},
		{[]int{4, 2, 0}, []int{1, 3, 5}},
		{allLetters(), []int{8, 7, 6, 4, 5, 2, 3, 0, 1}},
		{[]int{-1, 9, 0}, []int{1, 9, -1}},
		{[]int{math.MinInt, 5, math.MaxInt, -2}, []int{-2, math.MaxInt, 4, math.MinInt}},
	}
	for _, c := range cases {
		if r := impl.ReverseWord(c.word); !slices.Equal(r, c.want) {
			t.Errorf("ReverseWord(%v) = %v; want %v", c.word, r, c.want)
		}
	}
}

func TestReverseWordTwice(t *testing.T) {
	check := func(list []int) {
		r := impl.ReverseWord(list)
		if len(r) != len(list) {
			t.Fatalf("ReverseWord(%v) = %v", list, r)
		}
		for i, n := range r {
			if n != impl.InverseLetter(list[len(list)-1-i]) {
				t.Fatalf("ReverseWord(%v) = %v", list, r)
			}
		}
		if twice := impl.ReverseWord(r); !slices.Equal(twice, list) {
			t.Fatalf("ReverseWord twice gives %v for %v", twice, list)
		}
	}
	eachList(append(allLetters(), -1, 9), 4, check)
	check(slices.Repeat(noLetters, 10))
	check(slices.Repeat(allLetters(), 100))
}

func TestCompareWords(t *testing.T) {
	cases := []struct {
		a, b []int
		want int
	}{
		{nil, nil, 0},
		{nil, []int{}, 0},
		{nil, []int{0}, -1},
		{nil, []int{-1}, -1},
		{[]int{}, []int{math.MinInt}, -1},
		{[]int{5}, []int{0, 0}, -1},
		{[]int{8, 8, 8}, []int{0, 0, 0, 0}, -1},
		{[]int{0}, []int{0, 0}, -1},
		{[]int{math.MaxInt}, []int{math.MinInt, math.MinInt}, -1},
		{[]int{0, 8}, []int{1, 0}, -1},
		{[]int{1, 0}, []int{1, 0}, 0},
		{[]int{1, 0}, []int{1, 1}, -1},
		{[]int{2, 3, 4}, []int{2, 4, 0}, -1},
		{[]int{3}, []int{7}, -1},
		{[]int{-1}, []int{0}, -1},
		{[]int{-2}, []int{-1}, -1},
		{[]int{9}, []int{100}, -1},
		{[]int{math.MinInt}, []int{math.MaxInt}, -1},
		{[]int{math.MinInt, 1}, []int{1, math.MinInt}, -1},
		{make([]int, 20), make([]int, 20), 0},
		{make([]int, 20), make([]int, 21), -1},
		{make([]int, 9), append(make([]int, 8), 1), -1},
	}
	for _, c := range cases {
		checkCompared(t, c.a, c.b, c.want)
	}
}

// Enumerated by length and then by their elements, the lists come in ascending order.
func TestCompareWordsIsTotalOrder(t *testing.T) {
	var lists [][]int
	eachList([]int{math.MinInt, -1, 0, 1, 8, 9, math.MaxInt}, 3, func(list []int) { lists = append(lists, list) })
	for i, a := range lists {
		checkCompared(t, a, slices.Clone(a), 0)
		for _, b := range lists[i+1:] {
			checkCompared(t, a, b, -1)
		}
	}
}

func TestFormatWord(t *testing.T) {
	cases := []struct {
		word []int
		want string
	}{
		{nil, "()"},
		{[]int{}, "()"},
		{[]int{0}, "a"},
		{[]int{5}, "c-"},
		{[]int{6}, "0"},
		{[]int{0, 3, 7}, "a b- 1"},
		{[]int{0, 1, 2, 3, 4, 5, 6, 7}, "a a- b b- c c- 0 1"},
		{[]int{8, 8, 8, 8, 8, 8, 8, 8}, "2 2 2 2 2 2 2 2"},
	}
	for _, c := range cases {
		if s := impl.FormatWord(c.word); s != c.want {
			t.Errorf("FormatWord(%v) = %q; want %q", c.word, s, c.want)
		}
		checkWord(t, c.want, c.word, true)
	}
	for _, word := range [][]int{{9}, {-1}, {0, 9}, make([]int, 9), allLetters(), make([]int, 100)} {
		if s := impl.FormatWord(word); s != "" {
			t.Errorf("FormatWord(%v) = %q; want the empty string", word, s)
		}
	}
}

func TestWordRoundTrip(t *testing.T) {
	check := func(word []int) {
		s := impl.FormatWord(word)
		if s != spelled(word) || !impl.IsWord(word) {
			t.Fatalf("FormatWord(%v) = %q", word, s)
		}
		checkWord(t, s, word, true)
	}
	eachList(allLetters(), 4, check)
	eachList([]int{1, 8}, impl.MaxWord, check)
}

func TestParseWordInvalid(t *testing.T) {
	for _, s := range []string{
		"", " ", "  ", "        ", "( )", "(", ")", "())", "(()", "() ", " ()", "()()", "() ()", "() a", "a ()", "(a)", "[]",
		" a", "a ", "a  b", "a b ", " a b", "a   b", "a b-  1", "a\tb", "a\nb", "a\n", "a,b", "a\u00a0b",
		"ab", "aa", "a-b", "a -", "a - b", "a --", "a b-1", "a 3", "a d", "a 0-", "A b", "a B", "a \x00", "a\x00 b", "a b\x00", "\x00",
		"a a a a a a a a a", "0 1 2 0 1 2 0 1 2", "a a a a a a a a ", "a a a a a a a a  ", " a a a a a a a a",
		strings.Repeat("a ", 1000) + "a", strings.Repeat(" ", 1000), strings.Repeat("a", 1000), "\xff", "\u00e4",
	} {
		checkWord(t, s, nil, false)
	}
}

func TestParseWordAcceptsNothingElse(t *testing.T) {
	formats := map[string][]int{}
	eachList(allLetters(), 3, func(word []int) { formats[spelled(word)] = word })
	check := func(s string) {
		word, ok := formats[s]
		checkWord(t, s, word, ok)
	}
	// A format of more than three letters has at least seven bytes.
	eachString(" -()ac02d", 5, check)
	eachString(" -a0(", 6, check)
	eachString(allBytes(), 2, check)
}

// roomy returns a list of the elements with unused capacity, and the memory behind it.
func roomy(list ...int) ([]int, []int) {
	memory := slices.Repeat([]int{77}, len(list)+10)
	copy(memory, list)
	return memory[:len(list)], memory
}

func TestWordArgumentsStay(t *testing.T) {
	for _, list := range [][]int{{}, {3}, {0, 3, 7}, {5, 4, 3, 2, 1, 0}, {-1, 9, 2, 2}, slices.Repeat([]int{4, 1}, 10)} {
		a, memoryA := roomy(list...)
		b, memoryB := roomy(append(slices.Clone(list), 1)...)
		beforeA, beforeB := slices.Clone(memoryA), slices.Clone(memoryB)
		impl.IsWord(a)
		impl.FormatWord(a)
		impl.ReverseWord(a)
		impl.CompareWords(a, a)
		impl.CompareWords(a, b)
		impl.CompareWords(b, a)
		if !slices.Equal(memoryA, beforeA) || !slices.Equal(memoryB, beforeB) {
			t.Errorf("arguments %v have changed to %v and %v", list, memoryA, memoryB)
		}
	}
}

func TestReverseWordIsNewMemory(t *testing.T) {
	for _, list := range [][]int{{7}, {0}, {6, 7, 6}, {0, 1}, {0, 3, 7}, {-1, 9, 2, 2}} {
		argument, memory := roomy(list...)
		before := slices.Clone(memory)
		first, second := impl.ReverseWord(argument), impl.ReverseWord(argument)
		want := slices.Clone(second)
		for i := range first {
			first[i] = 1000
		}
		_ = append(first, 1000)
		if !slices.Equal(memory, before) || !slices.Equal(second, want) {
			t.Errorf("the result of ReverseWord(%v) shares memory", list)
		}
	}
}

func TestParseWordIsNewMemory(t *testing.T) {
	for _, s := range []string{"()", "a", "a b- 1", "2 2 2 2 2 2 2 2"} {
		first, _ := impl.ParseWord(s)
		second, _ := impl.ParseWord(s)
		for i := range first {
			first[i] = 1000
		}
		_ = append(first, 1000)
		third, ok := impl.ParseWord(s)
		if !ok || impl.FormatWord(second) != s || impl.FormatWord(third) != s {
			t.Errorf("the results of ParseWord(%q) share memory", s)
		}
	}
}
