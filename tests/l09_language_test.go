package tests

import (
	"cmp"
	"maps"
	"math"
	"math/rand"
	"regexp"
	"slices"
	"strings"
	"testing"

	"loop.example/g01922/impl"
)

// wordFrom reads a word without the program; it may have any number of letters.
func wordFrom(t *testing.T, s string) []int {
	t.Helper()
	var word []int
	for _, name := range strings.Fields(strings.Replace(s, "()", "", 1)) {
		letter := slices.Index(letterNames, name)
		if letter < 0 {
			t.Fatalf("%q is no list of letters", s)
		}
		word = append(word, letter)
	}
	return word
}

// keyOf returns the word as a language has it.
func keyOf(word []int) string {
	key := make([]byte, len(word))
	for i, letter := range word {
		key[i] = byte(letter)
	}
	return string(key)
}

// sortedWords returns the words of the language, the shorter ones first and those of equal length in lexicographic order.
func sortedWords(words language) [][]int {
	keys := slices.SortedFunc(maps.Keys(words), func(a string, b string) int {
		return cmp.Or(cmp.Compare(len(a), len(b)), strings.Compare(a, b))
	})
	var list [][]int
	for _, key := range keys {
		var word []int
		for _, letter := range []byte(key) {
			word = append(word, int(letter))
		}
		list = append(list, word)
	}
	return list
}

// repeatTokens has few enough tokens that all short lists of them can be tried, among them a repetition from 0 and one from 2 on.
func repeatTokens() []impl.Token {
	return []impl.Token{plain(2), reading(0), reading(7), plain(4), plain(5), repeating(0, 2), repeating(2, 3)}
}

// eachShortExpr calls f for expressions of at most five tokens.
func eachShortExpr(f func(e impl.Expr)) {
	for _, choices := range [][]impl.Token{fewTokens(), repeatTokens()} {
		eachExpr(choices, 5, func(e impl.Expr) {
			if wantedIsExpr(e) {
				f(e)
			}
		})
	}
}

// nullableOperands are repetitions of operands that are nullable, or almost so, alone and inside other expressions.
func nullableOperands(t *testing.T) []impl.Expr {
	var list []impl.Expr
	for _, operand := range []string{"()", "a *", "a {0,1}", "a () |", "() a |", "a * b * .", "a b {0,1} .", "a {0,1} b * |", "() {2,3}", "a * {2,2}", "! *", "! () |"} {
		for _, bounds := range []string{"{0,1}", "{0,2}", "{0,3}", "{1,1}", "{1,2}", "{1,3}", "{2,2}", "{2,3}", "{3,3}"} {
			for _, rest := range []string{"", "b .", "a .", "b |", "*", "{2,3}", "b {0,1} {2,2} .", "a * {1,2} . c ."} {
				list = append(list, exprOf(t, operand+" "+bounds+" "+rest))
			}
			list = append(list, exprOf(t, "b "+operand+" "+bounds+" ."), exprOf(t, "b * "+operand+" "+bounds+" ."))
		}
	}
	return list
}

func TestLanguageConstants(t *testing.T) {
	if impl.MaxDerived != 400 {
		t.Error("constants", impl.MaxDerived)
	}
}

func checkNullable(t *testing.T, e impl.Expr, want bool) {
	t.Helper()
	if impl.Nullable(e) != want {
		t.Fatalf("Nullable(%v) = %v; want %v", e, !want, want)
	}
}

func TestNullable(t *testing.T) {
	for _, s := range []string{
		"()", "a *", "! *", "() *", "a b . *", "a {0,1}", "a {0,2}", "a {0,3}", "! {0,1}", "() {1,1}", "() {2,3}", "() {3,3}", "a () |", "() a |", "() () .", "a * b * .", "a b * |", "a * b |", "a * {1,2}", "a * {3,3}", "a {0,1} {2,2}", "a () | {1,3}", "a * {1,2} b {0,1} .", "1 {0,1}", "1 0 . *",
	} {
		checkNullable(t, exprOf(t, s), true)
	}
	for _, s := range []string{
		"!", "a", "a-", "0", "2", "a b .", "a b |", "a {1,1}", "a {1,2}", "a {1,3}", "a {2,2}", "a {2,3}", "a {3,3}", "! {1,1}", "! {2,3}", "! () .", "() ! .", "! ! |", "a () .", "() a .", "a * b .", "b a * .", "a {0,2} b .", "a a * . {1,2}", "a b | {2,3}", "a * b . {1,1}", "a * {1,2} b .", "b a * {1,2} .",
	} {
		checkNullable(t, exprOf(t, s), false)
	}
}

func TestNullableIsEmptyWord(t *testing.T) {
	check := func(e impl.Expr) { checkNullable(t, e, wordsOf(e, 0)[""]) }
	for _, e := range append(someExprs(t), nullableOperands(t)...) {
		check(e)
	}
	eachShortExpr(check)
	r := rand.New(rand.NewSource(9))
	for range 3000 {
		check(randomExpr(r, 1+r.Intn(60)))
	}
	for _, e := range noExprs(t) {
		checkNullable(t, e, false)
	}
	checkNullable(t, impl.Expr{}, false)
}

// Not only valid expressions have a language: there may be any number of tokens.
func TestNullableLong(t *testing.T) {
	for _, tokens := range []int{25, 400, 401, 1001, 50001} {
		for i, want := range []bool{true, true, false, true} {
			checkNullable(t, exprsOfLength(t, tokens)[i], want)
		}
		checkNullable(t, joined(plain(4), exprsOfLength(t, tokens)[0], exprsOfLength(t, tokens)[1]), true)
	}
}

// wantedConcat and wantedUnion simplify as chapter 8 says, without the program.
func wantedConcat(a impl.Expr, b impl.Expr) impl.Expr {
	none, empty := joined(plain(1)), joined(plain(2))
	switch {
	case sameExpr(a, none) || sameExpr(b, none):
		return none
	case sameExpr(a, empty):
		return b
	case sameExpr(b, empty):
		return a
	}
	return joined(plain(4), a, b)
}

func wantedUnion(a impl.Expr, b impl.Expr) impl.Expr {
	none := joined(plain(1))
	switch {
	case sameExpr(a, none) || sameExpr(a, b):
		return b
	case sameExpr(b, none):
		return a
	}
	return joined(plain(5), a, b)
}

// wantedDerivative follows the rules of the document, however many tokens the result has.
func wantedDerivative(e impl.Expr, letter int) impl.Expr {
	last := e.Tokens[len(e.Tokens)-1]
	x, y := wantedSplit(e)
	switch last.Kind {
	case 3:
		if last.Letter == letter {
			return joined(plain(2))
		}
	case 4:
		out := wantedConcat(wantedDerivative(x, letter), y)
		if wordsOf(x, 0)[""] {
			return wantedUnion(out, wantedDerivative(y, letter))
		}
		return out
	case 5:
		return wantedUnion(wantedDerivative(x, letter), wantedDerivative(y, letter))
	case 6:
		return wantedConcat(wantedDerivative(x, letter), e)
	case 7:
		rest := joined(repeating(max(0, last.Low-1), last.High-1), x)
		switch rest.Tokens[len(x.Tokens)] {
		case repeating(0, 0):
			rest = joined(plain(2))
		case repeating(1, 1):
			rest = x
		}
		return wantedConcat(wantedDerivative(x, letter), rest)
	}
	return joined(plain(1))
}

func checkDerivative(t *testing.T, e impl.Expr, letter int, want impl.Expr, wantOk bool) {
	t.Helper()
	if d, ok := impl.Derivative(e, letter); ok != wantOk || !sameExpr(d, want) {
		t.Fatalf("Derivative(%v, %d) = %v, %v; want %v, %v", e, letter, d, ok, want, wantOk)
	}
}

func TestDerivative(t *testing.T) {
	for _, c := range [][3]string{
		{"a", "a", "()"}, {"a", "a-", "!"}, {"a", "b", "!"}, {"a-", "a-", "()"}, {"a-", "a", "!"}, {"1", "1", "()"}, {"1", "0", "!"}, {"2", "2", "()"}, {"c-", "c-", "()"},
		{"!", "a", "!"}, {"()", "a", "!"},
		{"a b .", "a", "b"}, {"a b .", "b", "!"}, {"a a .", "a", "a"}, {"a b . c .", "a", "b c ."}, {"a b c . .", "a", "b c ."}, {"a b . a c . |", "a", "b c |"},
		{"a b |", "a", "()"}, {"a b |", "b", "()"}, {"a b |", "c", "!"}, {"a a |", "a", "()"}, {"a () |", "a", "()"}, {"a b . a b . |", "a", "b"}, {"a b . a |", "a", "b () |"}, {"a a b . |", "a", "() b |"},
		{"a *", "a", "a *"}, {"a *", "b", "!"}, {"a b . *", "a", "b a b . * ."}, {"a b | *", "b", "a b | *"}, {"! *", "a", "!"}, {"() *", "a", "!"}, {"a * *", "a", "a * a * * ."},
		{"a * b .", "a", "a * b ."}, {"a * b .", "b", "()"}, {"a * a .", "a", "a * a . () |"}, {"a * b * .", "b", "b *"}, {"a * a * .", "a", "a * a * . a * |"}, {"() a .", "a", "()"}, {"a () .", "a", "()"}, {"! a .", "a", "!"}, {"a ! .", "a", "!"}, {"() () .", "a", "!"},
		{"a () | a .", "a", "a () |"}, {"a () | a * .", "a", "a *"}, {"a a | * c .", "a", "a a | * c ."},
		{"a {0,1}", "a", "()"}, {"a {0,2}", "a", "a {0,1}"}, {"a {0,3}", "a", "a {0,2}"}, {"a {1,1}", "a", "()"}, {"a {1,2}", "a", "a {0,1}"}, {"a {1,3}", "a", "a {0,2}"}, {"a {2,2}", "a", "a"}, {"a {2,3}", "a", "a {1,2}"}, {"a {3,3}", "a", "a {2,2}"},
		{"a {0,3}", "b", "!"}, {"a {2,2}", "b", "!"}, {"a b . {2,3}", "a", "b a b . {1,2} ."}, {"a b . {1,1}", "a", "b"}, {"a b . {0,1}", "a", "b"}, {"! {0,2}", "a", "!"}, {"() {2,2}", "a", "!"},
		{"a {2,3} b .", "a", "a {1,2} b ."}, {"a {2,3} b .", "b", "!"}, {"a {0,2} b .", "a", "a {0,1} b ."}, {"a {0,2} b .", "b", "()"}, {"a {0,2} a .", "a", "a {0,1} a . () |"},
	} {
		checkDerivative(t, exprOf(t, c[0]), slices.Index(letterNames, c[1]), exprOf(t, c[2]), true)
	}
}

// The edge case: an operand of a repetition that is nullable.
func TestDerivativeOfNullableOperands(t *testing.T) {
	for _, c := range [][3]string{
		{"a * {0,1}", "a", "a *"}, {"a * {0,2}", "a", "a * a * {0,1} ."}, {"a * {1,1}", "a", "a *"}, {"a * {1,2}", "a", "a * a * {0,1} ."}, {"a * {2,2}", "a", "a * a * ."}, {"a * {2,3}", "a", "a * a * {1,2} ."}, {"a * {3,3}", "a", "a * a * {2,2} ."}, {"a * {2,3}", "b", "!"},
		{"a {0,1} {0,1}", "a", "()"}, {"a {0,1} {0,2}", "a", "a {0,1} {0,1}"}, {"a {0,1} {1,2}", "a", "a {0,1} {0,1}"}, {"a {0,1} {2,2}", "a", "a {0,1}"}, {"a {0,1} {2,3}", "a", "a {0,1} {1,2}"}, {"a {0,1} {3,3}", "a", "a {0,1} {2,2}"},
		{"a () | {1,2}", "a", "a () | {0,1}"}, {"() a | {2,2}", "a", "() a |"}, {"a * b * . {2,2}", "b", "b * a * b * . ."},
		{"a * {2,3} b .", "a", "a * a * {1,2} . b ."}, {"a * {2,3} b .", "b", "()"}, {"a * {0,2} b .", "b", "()"}, {"a {0,1} {2,2} a .", "a", "a {0,1} a . () |"}, {"a {0,1} {2,3} a .", "a", "a {0,1} {1,2} a . () |"}, {"a {0,1} {1,1} a * .", "a", "a *"},
		{"b a * {1,2} .", "b", "a * {1,2}"}, {"b a * {1,2} .", "a", "!"}, {"b * a * {1,2} .", "a", "a * a * {0,1} ."}, {"b * a {0,1} {2,2} .", "b", "b * a {0,1} {2,2} ."},
		{"a {0,1} {1,3} b {0,1} {2,2} . c .", "c", "()"}, {"a {0,1} {1,3} b {0,1} {2,2} . c .", "b", "b {0,1} c ."}, {"a {0,1} {1,3} b {0,1} {2,2} . c .", "a", "a {0,1} {0,2} b {0,1} {2,2} . c ."},
	} {
		checkDerivative(t, exprOf(t, c[0]), slices.Index(letterNames, c[1]), exprOf(t, c[2]), true)
	}
}

// checkRules checks the derivatives by all letters, and that their words are those that follow the letter.
func checkRules(t *testing.T, e impl.Expr) {
	t.Helper()
	follows := [9]language{}
	for letter := range follows {
		follows[letter] = language{}
	}
	for word := range wordsOf(e, 3) {
		if word != "" {
			follows[word[0]][word[1:]] = true
		}
	}
	for letter, words := range follows {
		want := wantedDerivative(e, letter)
		if len(want.Tokens) > 400 {
			checkDerivative(t, e, letter, impl.Expr{}, false)
			continue
		}
		checkDerivative(t, e, letter, want, true)
		if d, _ := impl.Derivative(e, letter); !maps.Equal(wordsOf(d, 2), words) {
			t.Fatalf("Derivative(%v, %d) = %v, which has the words %v; want %v", e, letter, d, wordsOf(d, 2), words)
		}
	}
}

func TestDerivativeRules(t *testing.T) {
	for _, e := range append(someExprs(t), nullableOperands(t)...) {
		checkRules(t, e)
	}
	eachShortExpr(func(e impl.Expr) { checkRules(t, e) })
	r := rand.New(rand.NewSource(99))
	for range 2000 {
		checkRules(t, randomExpr(r, 1+r.Intn(24)))
	}
	for range 100 {
		checkRules(t, randomExpr(r, 25+r.Intn(40)))
	}
}

func TestDerivativeInvalid(t *testing.T) {
	for _, e := range noExprs(t) {
		for letter := range 9 {
			checkDerivative(t, e, letter, impl.Expr{}, false)
		}
	}
	for _, e := range append(someExprs(t), noExprs(t)...) {
		for _, letter := range noLetters {
			checkDerivative(t, e, letter, impl.Expr{}, false)
		}
	}
}

// An argument has at most MaxDerived tokens, and may have more than MaxTokens.
func TestDerivativeOfMostTokens(t *testing.T) {
	for _, tokens := range []int{24, 25, 26, 398, 399, 400} {
		rest := exprsOfLength(t, tokens-2)[0]
		checkDerivative(t, joined(plain(4), exprOf(t, "b"), rest), 2, rest, true)
		checkDerivative(t, exprsOfLength(t, tokens)[0], 2, exprOf(t, "!"), true)
		checkDerivative(t, exprsOfLength(t, tokens)[1], 3, wantedDerivative(exprsOfLength(t, tokens)[1], 3), true)
		checkDerivative(t, exprsOfLength(t, tokens)[3], 0, exprOf(t, "!"), true)
	}
	for _, tokens := range []int{401, 402, 1000, 50001} {
		for letter := range 9 {
			checkDerivative(t, joined(plain(4), exprOf(t, "b"), exprsOfLength(t, tokens-2)[0]), letter, impl.Expr{}, false)
			for _, e := range exprsOfLength(t, tokens) {
				checkDerivative(t, e, letter, impl.Expr{}, false)
			}
		}
	}
}

// afterLetter returns an expression with this number of tokens that begins with the letter a and has one more thing to read.
func afterLetter(t *testing.T, tokens int) (impl.Expr, impl.Expr) {
	t.Helper()
	rest := exprsOfLength(t, tokens-2)[1]
	return joined(plain(4), exprOf(t, "a"), rest), rest
}

// A result has at most MaxDerived tokens, but what it was put together from may have had more.
func TestDerivativesOfMostTokens(t *testing.T) {
	for _, c := range []struct {
		token     impl.Token
		lowest    int
		following int
	}{{plain(6), 400, 402}, {repeating(0, 2), 400, 402}, {repeating(1, 3), 400, 402}, {repeating(2, 2), 399, 401}, {repeating(3, 3), 400, 402}} {
		x, y := afterLetter(t, 200)
		repeated := joined(c.token, x)
		want := wantedDerivative(repeated, 0)
		if len(want.Tokens) != c.lowest {
			t.Fatalf("%d tokens; want %d", len(want.Tokens), c.lowest)
		}
		checkDerivative(t, repeated, 0, want, true)
		// One token more in the operand gives two tokens more, and a union with the letter gives two more as well.
		x, _ = afterLetter(t, 201)
		if longer := joined(c.token, x); len(wantedDerivative(longer, 0).Tokens) != c.following {
			t.Fatalf("%d tokens; want %d", len(wantedDerivative(longer, 0).Tokens), c.following)
		} else {
			checkDerivative(t, longer, 0, impl.Expr{}, false)
		}
		checkDerivative(t, joined(plain(5), repeated, exprOf(t, "a")), 0, impl.Expr{}, false)
		checkDerivative(t, joined(plain(5), repeated, exprOf(t, "b")), 0, want, true)
		// The result of a part may be too long for a result of its own.
		x, y = afterLetter(t, 300)
		repeated = joined(c.token, x)
		checkDerivative(t, repeated, 0, impl.Expr{}, false)
		checkDerivative(t, joined(plain(4), repeated, exprOf(t, "!")), 0, exprOf(t, "!"), true)
		checkDerivative(t, joined(plain(4), repeated, exprOf(t, "() ! |")), 0, impl.Expr{}, false)
		checkDerivative(t, joined(plain(5), joined(plain(4), repeated, exprOf(t, "!")), exprOf(t, "a b .")), 0, exprOf(t, "b"), true)
		checkDerivative(t, x, 0, y, true)
	}
}

// Equal derivatives count once, also if the result would otherwise have too many tokens.
func TestEqualDerivativesCountOnce(t *testing.T) {
	x, rest := afterLetter(t, 198)
	starred := joined(plain(6), x)
	want := joined(plain(4), rest, starred)
	if len(want.Tokens) != 396 {
		t.Fatalf("%d tokens; want 396", len(want.Tokens))
	}
	checkDerivative(t, starred, 0, want, true)
	checkDerivative(t, joined(plain(5), starred, starred), 0, want, true)
	x, _ = afterLetter(t, 100)
	starred = joined(plain(6), x)
	other := joined(plain(5), joined(plain(4), starred, exprOf(t, "b")), joined(plain(4), starred, exprOf(t, "c")))
	if tokens := len(wantedDerivative(other, 0).Tokens); tokens != 405 {
		t.Fatalf("%d tokens; want 405", tokens)
	}
	checkDerivative(t, other, 0, impl.Expr{}, false)
}

// In deep nesting a derivative is much longer than its argument.
func TestDerivativeOfDeepNesting(t *testing.T) {
	for _, s := range []string{"a" + strings.Repeat(" *", 399), "a" + strings.Repeat(" {2,3}", 399), strings.Repeat("a * ", 133) + strings.Repeat(" .", 132), "a *" + strings.Repeat(" a * .", 132)} {
		e := exprOf(t, s)
		checkDerivative(t, e, 0, impl.Expr{}, false)
		checkDerivative(t, e, 1, exprOf(t, "!"), true)
		checkDerivedWord(t, e, []int{0}, impl.Expr{}, false)
		checkDerivedWord(t, e, []int{1, 0, 0}, exprOf(t, "!"), true)
	}
}

func checkDerivedWord(t *testing.T, e impl.Expr, word []int, want impl.Expr, wantOk bool) {
	t.Helper()
	if d, ok := impl.DerivativeWord(e, word); ok != wantOk || !sameExpr(d, want) {
		t.Fatalf("DerivativeWord(%v, %v) = %v, %v; want %v, %v", e, word, d, ok, want, wantOk)
	}
}

// wantedDerivedWord takes one derivative after the other.
func wantedDerivedWord(e impl.Expr, word []int) (impl.Expr, bool) {
	for _, letter := range word {
		if e = wantedDerivative(e, letter); len(e.Tokens) > 400 {
			return impl.Expr{}, false
		}
	}
	return e, true
}

func TestDerivativeWord(t *testing.T) {
	for _, c := range [][3]string{
		{"a b . c .", "()", "a b . c ."}, {"a b . c .", "a", "b c ."}, {"a b . c .", "a b", "c"}, {"a b . c .", "a b c", "()"}, {"a b . c .", "a b c c", "!"}, {"a b . c .", "b", "!"}, {"a b . c .", "b a b c", "!"},
		{"a {2,3}", "a", "a {1,2}"}, {"a {2,3}", "a a", "a {0,1}"}, {"a {2,3}", "a a a", "()"}, {"a {2,3}", "a a a a", "!"}, {"a {3,3}", "a a", "a"},
		{"a b | * c .", "a b a b a b", "a b | * c ."}, {"a b | * c .", "a b a b a b c", "()"}, {"a b- . 1 .", "a b-", "1"}, {"a b- . 1 .", "a b- 1", "()"},
		{"a {0,1} {2,2}", "a", "a {0,1}"}, {"a {0,1} {2,2}", "a a", "()"}, {"a {0,1} {2,2}", "a a a", "!"}, {"a * {2,2} b .", "b", "()"},
		{"!", "()", "!"}, {"!", "a b c", "!"}, {"()", "()", "()"}, {"()", "a", "!"},
		// A list of letters may be longer than a word.
		{"a *", "a a a a a a a a a", "a *"}, {"a b . *", "a b a b a b a b a", "b a b . * ."}, {"a *", "a a a a a a a a b", "!"},
	} {
		checkDerivedWord(t, exprOf(t, c[0]), wordFrom(t, c[1]), exprOf(t, c[2]), true)
	}
	checkDerivedWord(t, exprOf(t, "a b . *"), slices.Repeat([]int{0, 2}, 5000), exprOf(t, "a b . *"), true)
}

func TestDerivativeWordIsRepeated(t *testing.T) {
	check := func(e impl.Expr, word []int) {
		want, ok := wantedDerivedWord(e, word)
		checkDerivedWord(t, e, word, want, ok)
	}
	for _, e := range append(someExprs(t), nullableOperands(t)...) {
		eachList([]int{0, 2, 3, 5}, 3, func(word []int) { check(e, word) })
	}
	r := rand.New(rand.NewSource(999))
	for range 1000 {
		e := randomExpr(r, 1+r.Intn(24))
		check(e, randomWordOf(r, e))
		check(e, randomLetters(r, r.Intn(12)))
	}
}

// Without letters the expression stays as it is, if it may be derived at all.
func TestDerivativeByEmptyWord(t *testing.T) {
	for _, e := range append(someExprs(t), nullableOperands(t)...) {
		checkDerivedWord(t, e, nil, e, true)
		checkDerivedWord(t, e, []int{}, e, true)
	}
	for _, tokens := range []int{399, 400, 401, 402, 50001} {
		for _, e := range exprsOfLength(t, tokens) {
			if tokens <= 400 {
				checkDerivedWord(t, e, nil, e, true)
			} else {
				checkDerivedWord(t, e, nil, impl.Expr{}, false)
				checkDerivedWord(t, e, []int{8}, impl.Expr{}, false)
			}
		}
	}
	for _, e := range noExprs(t) {
		checkDerivedWord(t, e, nil, impl.Expr{}, false)
	}
}

func TestDerivativeWordInvalid(t *testing.T) {
	for _, e := range noExprs(t) {
		checkDerivedWord(t, e, []int{0}, impl.Expr{}, false)
		checkDerivedWord(t, e, []int{0, 2, 9}, impl.Expr{}, false)
	}
	for _, letter := range noLetters {
		for _, s := range []string{"a", "a *", "!", "()", "a b | * c ."} {
			for _, word := range [][]int{{letter}, {0, letter}, {letter, 0}, {0, 0, 0, letter, 0, 0}, {7, 7, letter}, {0, 0, 0, 0, 0, 0, 0, 0, 0, letter}} {
				checkDerivedWord(t, exprOf(t, s), word, impl.Expr{}, false)
			}
		}
	}
	// A derivative that is too long ends it, even if those of the further letters were short again.
	growing := exprOf(t, "a"+strings.Repeat(" {0,3}", 23))
	if _, ok := impl.DerivativeWord(growing, []int{0}); !ok {
		t.Error("the first derivative is too long")
	}
	checkDerivedWord(t, growing, []int{0, 0}, impl.Expr{}, false)
	checkDerivedWord(t, growing, []int{0, 0, 1}, impl.Expr{}, false)
	checkDerivedWord(t, growing, []int{0, 1}, exprOf(t, "!"), true)
}

func checkMatches(t *testing.T, e impl.Expr, word []int, want bool) {
	t.Helper()
	if impl.MatchesWord(e, word) != want {
		t.Fatalf("MatchesWord(%v, %v) = %v; want %v", e, word, !want, want)
	}
}

func TestMatchesWord(t *testing.T) {
	for _, c := range []struct {
		e     string
		words []string
		no    []string
	}{
		{"!", nil, []string{"()", "a"}},
		{"()", []string{"()"}, []string{"a", "0"}},
		{"a", []string{"a"}, []string{"()", "a-", "b", "a a"}},
		{"a-", []string{"a-"}, []string{"()", "a", "a- a-"}},
		{"1", []string{"1"}, []string{"()", "0", "2", "1 1"}},
		{"a b .", []string{"a b"}, []string{"()", "a", "b", "b a", "a b b", "a a b"}},
		{"a b |", []string{"a", "b"}, []string{"()", "a b", "c"}},
		{"a *", []string{"()", "a", "a a", "a a a a a a a a"}, []string{"b", "a b", "b a", "a a a a a a a b"}},
		{"a b | * c .", []string{"c", "a c", "b a b a b a b c"}, []string{"()", "a", "c c", "a b a b a b a b"}},
		{"a {0,2}", []string{"()", "a", "a a"}, []string{"a a a"}},
		{"a {2,3}", []string{"a a", "a a a"}, []string{"()", "a", "a a a a"}},
		{"a {1,1}", []string{"a"}, []string{"()", "a a"}},
		{"a b . {2,2}", []string{"a b a b"}, []string{"()", "a b", "a b a", "a b a b a b"}},
		{"a {2,2} {2,2}", []string{"a a a a"}, []string{"a a", "a a a", "a a a a a", "a a a a a a a a"}},
		{"a {2,3} {2,2}", []string{"a a a a", "a a a a a", "a a a a a a"}, []string{"a a a", "a a a a a a a"}},
		{"a {2,2} * b .", []string{"b", "a a b", "a a a a a a b"}, []string{"a b", "a a a b", "a a"}},
		{"a a b . | *", []string{"()", "a", "a b", "a a b a a b a"}, []string{"b", "a b b"}},
		{"a a- . 1 . a- .", []string{"a a- 1 a-"}, []string{"a a- 1", "a a- 0 a-", "a a 1 a-"}},
		{"! *", []string{"()"}, []string{"a"}},
		{"! {0,3}", []string{"()"}, []string{"a"}},
		{"! {1,3}", nil, []string{"()", "a"}},
		{"a ! .", nil, []string{"()", "a"}},
		// The edge case: an operand of a repetition that is nullable.
		{"a {0,1} {3,3}", []string{"()", "a", "a a", "a a a"}, []string{"a a a a", "b"}},
		{"a {0,1} {0,2}", []string{"()", "a", "a a"}, []string{"a a a"}},
		{"a * {2,2}", []string{"()", "a", "a a a a a a a a"}, []string{"b", "a b"}},
		{"a () | {2,2} b .", []string{"b", "a b", "a a b"}, []string{"()", "a", "a a", "a a a b"}},
		{"b a {0,1} {1,3} .", []string{"b", "b a", "b a a a"}, []string{"()", "a", "b a a a a"}},
		{"a b {0,1} . {2,2}", []string{"a a", "a b a", "a a b", "a b a b"}, []string{"()", "a", "a b", "a b b a", "a a a"}},
		{"a * b * . {2,3}", []string{"()", "a b a b a b", "b a b a b", "a a b b a a b b", "a b a"}, []string{"b a b a b a b", "a b a b a b a", "c"}},
		{"() {2,3} a .", []string{"a"}, []string{"()", "a a"}},
	} {
		for _, word := range c.words {
			checkMatches(t, exprOf(t, c.e), wordFrom(t, word), true)
		}
		for _, word := range c.no {
			checkMatches(t, exprOf(t, c.e), wordFrom(t, word), false)
		}
	}
}

// checkMembers checks every short word of these letters.
func checkMembers(t *testing.T, e impl.Expr, letters []int, length int) {
	t.Helper()
	words := wordsOf(e, length)
	eachList(letters, length, func(word []int) { checkMatches(t, e, word, words[keyOf(word)]) })
}

func TestMatchesShortWords(t *testing.T) {
	for _, s := range goodExprs {
		checkMembers(t, exprOf(t, s), allLetters(), 3)
	}
	for _, e := range nullableOperands(t) {
		checkMembers(t, e, []int{0, 2, 4}, 4)
	}
	eachShortExpr(func(e impl.Expr) { checkMembers(t, e, []int{0, 3, 7}, 3) })
	r := rand.New(rand.NewSource(909))
	for range 200 {
		checkMembers(t, randomExpr(r, 1+r.Intn(24)), allLetters(), 3)
	}
}

// patternOf writes the expression in the language of the package regexp.
func patternOf(e impl.Expr) string {
	last := e.Tokens[len(e.Tokens)-1]
	x, y := wantedSplit(e)
	switch last.Kind {
	case 2:
		return "(?:)"
	case 3:
		return string([]byte{'A' + byte(last.Letter)})
	case 4:
		return patternOf(x) + patternOf(y)
	case 5:
		return "(?:" + patternOf(x) + "|" + patternOf(y) + ")"
	case 6, 7:
		return "(?:" + patternOf(x) + ")" + tokenNames[last]
	}
	return `[^\x00-\x{10FFFF}]`
}

func randomLetters(r *rand.Rand, length int) []int {
	word := make([]int, length)
	for i := range word {
		word[i] = r.Intn(9)
	}
	return word
}

// randomWordOf returns a word of the expression, if it has any, or letters that are more than MaxWord.
func randomWordOf(r *rand.Rand, e impl.Expr) []int {
	last := e.Tokens[len(e.Tokens)-1]
	x, y := wantedSplit(e)
	low, high := last.Low, last.High
	switch last.Kind {
	case 3:
		return []int{last.Letter}
	case 4:
		return append(randomWordOf(r, x), randomWordOf(r, y)...)
	case 5:
		return randomWordOf(r, []impl.Expr{x, y}[r.Intn(2)])
	case 6:
		high = 3
	case 1, 2:
		return nil
	}
	var word []int
	for range low + r.Intn(high-low+1) {
		part := randomWordOf(r, x)
		// If one part is empty, all further ones may be so; and what is longer than MaxWord need not be a word of the language.
		if len(part) == 0 || len(word) > 8 {
			break
		}
		word = append(word, part...)
	}
	return word
}

// wordsNear returns the word, and words that differ from it in one place.
func wordsNear(r *rand.Rand, word []int) [][]int {
	list := [][]int{word, append(slices.Clone(word), r.Intn(9))}
	for place := range word {
		other := slices.Clone(word)
		other[place] = r.Intn(9)
		list = append(list, other, slices.Delete(slices.Clone(word), place, place+1), slices.Insert(slices.Clone(word), place, word[r.Intn(len(word))]))
	}
	return list
}

// The package regexp decides the same, also for the longest words.
func TestMatchesLongWords(t *testing.T) {
	r := rand.New(rand.NewSource(9009))
	longest, matched := 0, 0
	for range 3000 {
		e := randomExpr(r, 1+r.Intn(24))
		pattern, err := regexp.Compile("^(?:" + patternOf(e) + ")$")
		if err != nil {
			// Nested repetitions may be too large for the package.
			continue
		}
		for _, word := range wordsNear(r, randomWordOf(r, e)) {
			if len(word) > 8 {
				continue
			}
			names := []byte(keyOf(word))
			for i := range names {
				names[i] += 'A'
			}
			want := pattern.Match(names)
			checkMatches(t, e, word, want)
			if len(word) == 8 {
				longest++
			}
			if want {
				matched++
			}
		}
	}
	if longest < 200 || matched < 1000 {
		t.Errorf("only %d longest words and %d that match", longest, matched)
	}
}

func TestMatchesWordInvalid(t *testing.T) {
	for _, e := range noExprs(t) {
		for _, word := range [][]int{nil, {0}, {3}, {0, 2}, {0, 0, 0}} {
			checkMatches(t, e, word, false)
		}
	}
	all := exprOf(t, "a a- | b | b- | c | c- | 0 | 1 | 2 | *")
	checkMatches(t, all, []int{0, 1, 2, 3, 4, 5, 6, 7}, true)
	checkMatches(t, all, []int{8, 7, 6, 5, 4, 3, 2, 1}, true)
	checkMatches(t, all, []int{0, 1, 2, 3, 4, 5, 6, 7, 8}, false)
	checkMatches(t, all, slices.Repeat([]int{0}, 64), false)
	checkMatches(t, all, slices.Repeat([]int{0}, 100000), false)
	for _, letter := range noLetters {
		for _, word := range [][]int{{letter}, {0, letter}, {letter, 0}, {0, 0, 0, 0, 0, 0, 0, letter}} {
			checkMatches(t, all, word, false)
			checkMatches(t, exprOf(t, "a"), word, false)
		}
	}
	// An expression with more than MaxTokens tokens is not valid.
	for _, tokens := range []int{23, 24, 25, 26, 400, 401, 50001} {
		for i, word := range [][]int{{0}, {3}} {
			checkMatches(t, exprsOfLength(t, tokens)[i], word, tokens <= 24)
			checkMatches(t, exprsOfLength(t, tokens)[i], nil, tokens <= 24)
		}
	}
}

// A word belongs to the language exactly if the derivative by it is nullable.
func TestMatchesExactlyIfDerivativeIsNullable(t *testing.T) {
	derived := 0
	check := func(e impl.Expr, word []int) {
		d, ok := impl.DerivativeWord(e, word)
		if !ok || len(word) > 8 {
			return
		}
		derived++
		if impl.MatchesWord(e, word) != impl.Nullable(d) {
			t.Fatalf("MatchesWord(%v, %v) = %v, but the derivative is %v", e, word, impl.MatchesWord(e, word), d)
		}
	}
	for _, s := range goodExprs {
		eachList(allLetters(), 3, func(word []int) { check(exprOf(t, s), word) })
	}
	for _, e := range nullableOperands(t) {
		eachList([]int{0, 2, 4}, 3, func(word []int) { check(e, word) })
	}
	r := rand.New(rand.NewSource(90909))
	for range 1000 {
		e := randomExpr(r, 1+r.Intn(24))
		for _, word := range wordsNear(r, randomWordOf(r, e)) {
			check(e, word)
		}
	}
	if derived < 50000 {
		t.Errorf("only %d derivatives", derived)
	}
}

// Whether a word matches does not depend on derivatives, which may have too many tokens.
func TestMatchesWithoutDerivative(t *testing.T) {
	for _, s := range []string{"a" + strings.Repeat(" {0,3}", 23), "a *" + strings.Repeat(" {2,3}", 22), strings.Repeat("a * ", 8) + strings.Repeat(" .", 7), "a" + strings.Repeat(" {0,3} *", 11)} {
		e := exprOf(t, s)
		word := slices.Repeat([]int{0}, 8)
		checkDerivedWord(t, e, word, impl.Expr{}, false)
		checkMatches(t, e, word, true)
		checkMatches(t, e, append(word[:7:7], 1), false)
		if len(impl.WordsUpTo(e, 3)) != 4 {
			t.Fatalf("WordsUpTo(%v, 3) = %v", e, impl.WordsUpTo(e, 3))
		}
	}
}

func checkListed(t *testing.T, e impl.Expr, length int, want [][]int) {
	t.Helper()
	if list := impl.WordsUpTo(e, length); !slices.EqualFunc(list, want, slices.Equal[[]int]) {
		t.Fatalf("WordsUpTo(%v, %d) = %v; want %v", e, length, list, want)
	}
}

func TestWordsUpTo(t *testing.T) {
	for _, c := range []struct {
		e      string
		length int
		words  []string
	}{
		{"a b | * c .", 0, nil}, {"a b | * c .", 1, []string{"c"}}, {"a b | * c .", 2, []string{"c", "a c", "b c"}}, {"a b | * c .", 3, []string{"c", "a c", "b c", "a a c", "a b c", "b a c", "b b c"}},
		{"!", 3, nil}, {"()", 0, []string{"()"}}, {"()", 3, []string{"()"}}, {"a", 0, nil}, {"a", 1, []string{"a"}}, {"a", 3, []string{"a"}}, {"a a .", 1, nil}, {"a a .", 2, []string{"a a"}},
		{"a {3,3}", 2, nil}, {"a {3,3}", 3, []string{"a a a"}}, {"a {2,3}", 3, []string{"a a", "a a a"}}, {"a {2,2} {2,2}", 3, nil},
		{"a *", 3, []string{"()", "a", "a a", "a a a"}}, {"b a |", 1, []string{"a", "b"}}, {"1 a- | 0 | c |", 1, []string{"a-", "c", "0", "1"}}, {"a a |", 1, []string{"a"}}, {"b a . a |", 2, []string{"a", "b a"}}, {"b a a . |", 2, []string{"b", "a a"}},
		{"a * a * .", 2, []string{"()", "a", "a a"}}, {"a a- . *", 3, []string{"()", "a a-"}}, {"! *", 2, []string{"()"}}, {"a ! .", 3, nil},
		{"a {0,1} {2,2}", 3, []string{"()", "a", "a a"}}, {"a {0,1} {1,3}", 3, []string{"()", "a", "a a", "a a a"}}, {"a {0,1} {2,2} b .", 3, []string{"b", "a b", "a a b"}}, {"b a * {2,3} .", 3, []string{"b", "b a", "b a a"}}, {"a b {0,1} . {2,2}", 3, []string{"a a", "a a b", "a b a"}},
	} {
		var want [][]int
		for _, s := range c.words {
			want = append(want, wordFrom(t, s))
		}
		checkListed(t, exprOf(t, c.e), c.length, want)
	}
}

// checkAllListed checks that exactly the short words are listed, once each, ascending, and that each of them matches.
func checkAllListed(t *testing.T, e impl.Expr) {
	t.Helper()
	for length := range 4 {
		checkListed(t, e, length, sortedWords(wordsOf(e, length)))
	}
	list := impl.WordsUpTo(e, 3)
	for i, word := range list {
		if i > 0 && impl.CompareWords(list[i-1], word) != -1 {
			t.Fatalf("WordsUpTo(%v, 3) = %v does not ascend", e, list)
		}
		checkMatches(t, e, word, true)
	}
}

func TestWordsUpToIsLanguage(t *testing.T) {
	for _, s := range goodExprs {
		checkAllListed(t, exprOf(t, s))
	}
	for _, e := range append(exprsOfLength(t, 24), nullableOperands(t)...) {
		checkAllListed(t, e)
	}
	eachShortExpr(func(e impl.Expr) { checkAllListed(t, e) })
	r := rand.New(rand.NewSource(99099))
	for range 500 {
		checkAllListed(t, randomExpr(r, 1+r.Intn(24)))
	}
}

func TestWordsUpToOfAllLetters(t *testing.T) {
	var all [][]int
	eachList(allLetters(), 3, func(word []int) { all = append(all, word) })
	for _, s := range []string{"a a- | b | b- | c | c- | 0 | 1 | 2 | *", "2 1 | 0 | c- | c | b- | b | a- | a | {0,3}"} {
		for length, count := range []int{1, 10, 91, 820} {
			checkListed(t, exprOf(t, s), length, all[:count])
		}
	}
}

func TestWordsUpToInvalid(t *testing.T) {
	for _, e := range noExprs(t) {
		for length := range 4 {
			checkListed(t, e, length, nil)
		}
	}
	for _, tokens := range []int{25, 26, 400, 50001} {
		for _, e := range exprsOfLength(t, tokens) {
			checkListed(t, e, 3, nil)
		}
	}
	for _, length := range []int{-1, -2, 4, 5, 8, 9, 1 << 32, 1<<32 + 1, math.MaxInt, math.MinInt} {
		for _, s := range goodExprs {
			checkListed(t, exprOf(t, s), length, nil)
		}
	}
}

func checkAlphabet(t *testing.T, e impl.Expr, want ...int) {
	t.Helper()
	if letters := impl.Alphabet(e); !slices.Equal(letters, want) {
		t.Fatalf("Alphabet(%v) = %v; want %v", e, letters, want)
	}
}

func TestAlphabet(t *testing.T) {
	for _, c := range [][2]string{
		{"!", ""}, {"()", ""}, {"! *", ""}, {"() ! | {0,1}", ""}, {"a", "a"}, {"2", "2"}, {"a-", "a-"}, {"a a .", "a"}, {"b a |", "a b"}, {"c b . a .", "a b c"}, {"a- a .", "a a-"}, {"a b . a |", "a b"},
		{"2 1 . 0 . c- . c . b- . b . a- . a .", "a a- b b- c c- 0 1 2"}, {"1 c * b- {2,3} . |", "b- c 1"},
		// A letter occurs also where no word has it.
		{"a ! .", "a"}, {"! c .", "c"}, {"a ! . *", "a"},
	} {
		checkAlphabet(t, exprOf(t, c[0]), wordFrom(t, c[1])...)
	}
	for _, e := range noExprs(t) {
		checkAlphabet(t, e)
	}
}

func TestAlphabetIsLetters(t *testing.T) {
	check := func(e impl.Expr) {
		letters := map[int]bool{}
		for _, token := range e.Tokens {
			if token.Kind == 3 {
				letters[token.Letter] = true
			}
		}
		checkAlphabet(t, e, slices.Sorted(maps.Keys(letters))...)
	}
	eachShortExpr(check)
	for _, e := range someExprs(t) {
		check(e)
	}
	for _, tokens := range []int{400, 401, 1001, 50001} {
		for _, e := range exprsOfLength(t, tokens) {
			check(e)
		}
	}
	r := rand.New(rand.NewSource(990))
	for range 1000 {
		check(randomExpr(r, 1+r.Intn(60)))
	}
}

// languageWords returns words for the calls below, also such that are no words.
func languageWords() [][]int {
	return [][]int{nil, {0}, {3}, {0, 0}, {0, 3, 4, 7}, {0, 2, 9}, {-1}, slices.Repeat([]int{0}, 9)}
}

// languageCalls returns calls that give lists for an expression and a word.
func languageCalls() []func(e impl.Expr, word []int) [][]int {
	tokens := func(e impl.Expr, ok bool) [][]int {
		var lists [][]int
		for _, token := range e.Tokens {
			lists = append(lists, []int{token.Kind, token.Letter, token.Low, token.High})
		}
		scribbleTokens(e.Tokens)
		return lists
	}
	calls := []func(e impl.Expr, word []int) [][]int{
		func(e impl.Expr, word []int) [][]int { return tokens(impl.DerivativeWord(e, word)) },
		func(e impl.Expr, word []int) [][]int { return impl.WordsUpTo(e, len(word)) },
		func(e impl.Expr, word []int) [][]int { return [][]int{impl.Alphabet(e)} },
	}
	for letter := range 10 {
		calls = append(calls, func(e impl.Expr, word []int) [][]int { return tokens(impl.Derivative(e, letter)) })
	}
	return calls
}

// scribbleWords overwrites the words and their unused capacity.
func scribbleWords(words [][]int) {
	for _, word := range words {
		for i := range word[:cap(word)] {
			word[:cap(word)][i] = 1000
		}
	}
}

func TestLanguageArgumentsStay(t *testing.T) {
	for _, original := range append(someExprs(t), noExprs(t)...) {
		for _, list := range languageWords() {
			e, memory := roomyExpr(original)
			word, wordMemory := roomy(list...)
			before, wordBefore := slices.Clone(memory), slices.Clone(wordMemory)
			for _, call := range languageCalls() {
				scribbleWords(call(e, word))
			}
			impl.Nullable(e)
			impl.MatchesWord(e, word)
			if !slices.Equal(memory, before) || !slices.Equal(wordMemory, wordBefore) {
				t.Fatalf("the arguments %v and %v have changed", original, list)
			}
		}
	}
}

// A result stays as it is when the arguments, or the results of other calls, are overwritten.
func TestLanguageResultsAreNewMemory(t *testing.T) {
	for _, original := range someExprs(t) {
		for letter := range 9 {
			e, memory := roomyExpr(original)
			derived, ok := impl.Derivative(e, letter)
			again, _ := impl.DerivativeWord(e, []int{letter})
			same, _ := impl.DerivativeWord(e, nil)
			scribbleTokens(memory)
			scribbleTokens(same.Tokens)
			scribbleTokens(again.Tokens)
			if want := wantedDerivative(original, letter); ok != (len(want.Tokens) <= 400) || ok && !sameExpr(derived, want) {
				t.Fatalf("Derivative(%v, %d) shares memory: %v", original, letter, derived)
			}
		}
		e, memory := roomyExpr(original)
		same, _ := impl.DerivativeWord(e, nil)
		scribbleTokens(memory)
		checkBuilt(t, "DerivativeWord", same, original)
		letters := impl.Alphabet(original)
		want := slices.Clone(letters)
		scribbleWords([][]int{impl.Alphabet(original)})
		checkAlphabet(t, original, letters...)
		checkAlphabet(t, original, want...)
	}
}

// No two words of a list share memory, unused capacity included.
func TestListedWordsAreNewMemory(t *testing.T) {
	for _, s := range []string{"a *", "a b | *", "a a- | b | b- | c | c- | 0 | 1 | 2 | *", "a {0,1} {2,3}"} {
		e := exprOf(t, s)
		want := sortedWords(wordsOf(e, 3))
		list := impl.WordsUpTo(e, 3)
		for i := range list {
			scribbleWords(list[i : i+1])
			if i+1 < len(list) && !slices.EqualFunc(list[i+1:], want[i+1:], slices.Equal[[]int]) {
				t.Fatalf("the words of %v share memory", e)
			}
		}
		checkListed(t, e, 3, want)
	}
}
