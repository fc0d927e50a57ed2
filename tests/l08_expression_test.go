package tests

import (
	"fmt"
	"maps"
	"math"
	"math/rand"
	"regexp"
	"slices"
	"strings"
	"testing"

	"loop.example/g01922/impl"
)

func plain(kind int) impl.Token {
	return impl.Token{Kind: kind}
}

func reading(letter int) impl.Token {
	return impl.Token{Kind: 3, Letter: letter}
}

func repeating(low int, high int) impl.Token {
	return impl.Token{Kind: 7, Low: low, High: high}
}

// tokenNames gives every valid token its format.
var tokenNames = namesOfTokens()

func namesOfTokens() map[impl.Token]string {
	names := map[impl.Token]string{plain(1): "!", plain(2): "()", plain(4): ".", plain(5): "|", plain(6): "*"}
	for letter, name := range letterNames {
		names[reading(letter)] = name
	}
	for _, bounds := range [][2]int{{0, 1}, {0, 2}, {0, 3}, {1, 1}, {1, 2}, {1, 3}, {2, 2}, {2, 3}, {3, 3}} {
		names[repeating(bounds[0], bounds[1])] = fmt.Sprintf("{%d,%d}", bounds[0], bounds[1])
	}
	return names
}

func validTokens() []impl.Token {
	return slices.SortedFunc(maps.Keys(tokenNames), func(a impl.Token, b impl.Token) int {
		return slices.Compare([]int{a.Kind, a.Letter, a.Low, a.High}, []int{b.Kind, b.Letter, b.Low, b.High})
	})
}

func invalidTokens() []impl.Token {
	list := []impl.Token{
		{}, {Letter: 1}, {Low: 1, High: 2}, plain(-1), plain(8), plain(9), plain(1 << 32), plain(1<<32 + 1), plain(math.MaxInt), plain(math.MinInt), {Kind: 8, Low: 1, High: 2}, {Kind: -3, Letter: 2},
		repeating(0, 0), repeating(0, 4), repeating(1, 4), repeating(3, 4), repeating(4, 4), repeating(2, 1), repeating(1, 0), repeating(3, 2), repeating(3, 1), repeating(-1, 0), repeating(-1, 1), repeating(-1, 3), repeating(-3, -1), repeating(0, -1),
		repeating(1, 1<<32+1), repeating(1<<32, 3), repeating(0, math.MaxInt), repeating(math.MinInt, 2), repeating(math.MaxInt, math.MinInt), repeating(math.MinInt, math.MaxInt),
		{Kind: 3, Low: 1, High: 1}, {Kind: 3, Letter: 2, High: 2}, {Kind: 3, Letter: 8, Low: -1}, {Kind: 7, Letter: 1, Low: 1, High: 2}, {Kind: 7, Letter: -1, High: 1}, {Kind: 7, Letter: 2},
	}
	for _, n := range noLetters {
		list = append(list, reading(n))
	}
	for _, kind := range []int{1, 2, 4, 5, 6} {
		for _, n := range []int{1, -1, 8, math.MaxInt, math.MinInt} {
			list = append(list, impl.Token{Kind: kind, Letter: n}, impl.Token{Kind: kind, Low: n}, impl.Token{Kind: kind, High: n}, impl.Token{Kind: kind, Low: 1, High: n})
		}
	}
	return list
}

// exprOf builds an expression without the functions under test; the bounds of a repetition may be any numbers.
func exprOf(t *testing.T, s string) impl.Expr {
	t.Helper()
	e := impl.Expr{}
	for _, part := range strings.Fields(s) {
		token, found := impl.Token{}, false
		for candidate, name := range tokenNames {
			if name == part {
				token, found = candidate, true
			}
		}
		if !found {
			token = repeating(0, 0)
			if _, err := fmt.Sscanf(part, "{%d,%d}", &token.Low, &token.High); err != nil {
				t.Fatalf("%q is no list of tokens", s)
			}
		}
		e.Tokens = append(e.Tokens, token)
	}
	return e
}

func sameExpr(a impl.Expr, b impl.Expr) bool {
	return slices.Equal(a.Tokens, b.Tokens)
}

func cloneExpr(e impl.Expr) impl.Expr {
	return impl.Expr{Tokens: slices.Clone(e.Tokens)}
}

// joined returns the tokens of the expressions followed by one more token.
func joined(last impl.Token, parts ...impl.Expr) impl.Expr {
	out := impl.Expr{}
	for _, part := range parts {
		out.Tokens = append(out.Tokens, part.Tokens...)
	}
	return impl.Expr{Tokens: append(out.Tokens, last)}
}

func operandsOf(t impl.Token) int {
	switch t.Kind {
	case 4, 5:
		return 2
	case 6, 7:
		return 1
	}
	return 0
}

// beforeLast returns what is left of the tokens without the expression at their end, and whether there is such an expression.
func beforeLast(tokens []impl.Token) ([]impl.Token, bool) {
	if len(tokens) == 0 || tokenNames[tokens[len(tokens)-1]] == "" {
		return nil, false
	}
	rest, ok := tokens[:len(tokens)-1], true
	for range operandsOf(tokens[len(tokens)-1]) {
		if rest, ok = beforeLast(rest); !ok {
			return nil, false
		}
	}
	return rest, true
}

func wantedIsExpr(e impl.Expr) bool {
	rest, ok := beforeLast(e.Tokens)
	return ok && len(rest) == 0
}

// wantedSplit returns the operands of something that is an expression.
func wantedSplit(e impl.Expr) (impl.Expr, impl.Expr) {
	inner := e.Tokens[:len(e.Tokens)-1]
	rest, _ := beforeLast(inner)
	switch operandsOf(e.Tokens[len(inner)]) {
	case 1:
		return impl.Expr{Tokens: inner}, impl.Expr{}
	case 2:
		return impl.Expr{Tokens: rest}, impl.Expr{Tokens: inner[len(rest):]}
	}
	return impl.Expr{}, impl.Expr{}
}

// eachExpr calls f for all lists of at most length tokens, which are taken from the choices; not all of them are expressions.
func eachExpr(choices []impl.Token, length int, f func(e impl.Expr)) {
	places := make([]int, len(choices))
	for i := range places {
		places[i] = i
	}
	eachList(places, length, func(list []int) {
		e := impl.Expr{}
		for _, place := range list {
			e.Tokens = append(e.Tokens, choices[place])
		}
		f(e)
	})
}

// randomExpr returns an expression with this number of tokens, with every kind of token in any place where it fits.
func randomExpr(r *rand.Rand, tokens int) impl.Expr {
	fitting := slices.DeleteFunc(validTokens(), func(t impl.Token) bool {
		operands := operandsOf(t)
		return operands >= tokens || operands == 0 && tokens > 1
	})
	last := fitting[r.Intn(len(fitting))]
	switch operandsOf(last) {
	case 1:
		return joined(last, randomExpr(r, tokens-1))
	case 2:
		left := 1 + r.Intn(tokens-2)
		return joined(last, randomExpr(r, left), randomExpr(r, tokens-1-left))
	}
	return joined(last)
}

// fewTokens has a token of every kind, and few enough tokens that all short lists of them can be tried.
func fewTokens() []impl.Token {
	return []impl.Token{plain(1), plain(2), reading(3), plain(4), plain(5), plain(6), repeating(0, 1)}
}

// exprsOfLength returns expressions with this number of tokens.
func exprsOfLength(t *testing.T, tokens int) []impl.Expr {
	pairs, more := (tokens-1)/2, (tokens-1)%2
	return []impl.Expr{
		exprOf(t, "a"+strings.Repeat(" *", tokens-1)),
		exprOf(t, "b-"+strings.Repeat(" {0,1}", tokens-1)),
		exprOf(t, "c"+strings.Repeat(" 1 .", pairs)+strings.Repeat(" {2,3}", more)),
		exprOf(t, strings.Repeat("() ", pairs)+"!"+strings.Repeat(" |", pairs)+strings.Repeat(" *", more)),
	}
}

var goodExprs = []string{
	"!", "()", "a", "a-", "b", "b-", "c", "c-", "0", "1", "2",
	"a b .", "a b |", "a *", "a {0,1}", "a {0,2}", "a {0,3}", "a {1,1}", "a {1,2}", "a {1,3}", "a {2,2}", "a {2,3}", "a {3,3}",
	"a b- . c {0,2} |", "a b- . * c |", "a b c . .", "a b . c .", "a b c | .", "a b | c .", "a b . c |", "a b c . |", "a b . c a- . |", "a b | c a- | .",
	"! *", "() *", "! {0,1}", "() {1,1}", "a * *", "a {0,1} *", "a * {0,1}", "a {0,3} {3,3} {1,2}", "! ! .", "() () |", "! () .", "a a |", "a a .", "a * a * .", "a b . a b . |",
	"0 a . 1 . a- . 2 .", "a b | * c . {1,3} 0 1 . | *",
}

// These lists of tokens are no expressions.
var badExprs = []string{
	"", ".", "|", "*", "{0,1}", "a .", "a |", ". a", "| a", "* a", "{0,1} a", "a . b", "a | b", "a b", "a b c", "() ()", "! !", "a ()", "a ! b",
	"a b . .", "a b | |", "a b . |", "a * .", "a * |", "a {1,2} .", "a b c .", "a b c |", "a b * . c", "a b . c", "a * b", "a b *", "a b {0,1}", "a b . c a- .", "a b . . c", ". a b", "a . b .", "* *", "a b . * * c",
	"a {0,0}", "a {0,4}", "a {1,4}", "a {4,4}", "a {2,1}", "a {1,0}", "a {3,2}", "a {-1,1}", "a {-1,0}", "a {-2,-1}", "a {0,-1}", "a {0,0} *", "a {0,0} b |", "a b {2,1} .", "a {0,1} {0,4}",
}

// someExprs returns expressions, also such with more than MaxTokens tokens.
func someExprs(t *testing.T) []impl.Expr {
	var list []impl.Expr
	for _, s := range goodExprs {
		list = append(list, exprOf(t, s))
	}
	for _, tokens := range []int{5, 12, 23, 24, 25, 40} {
		list = append(list, exprsOfLength(t, tokens)...)
	}
	return list
}

// noExprs returns lists of tokens that are no expressions.
func noExprs(t *testing.T) []impl.Expr {
	var list []impl.Expr
	for _, s := range badExprs {
		list = append(list, exprOf(t, s))
	}
	a := impl.LetterExpr(0)
	for _, token := range invalidTokens() {
		list = append(list,
			joined(token), joined(token, a), joined(token, a, a),
			joined(plain(6), joined(token)), joined(plain(4), a, joined(token, a)), joined(plain(5), joined(token, a, a), a))
	}
	for _, tokens := range []int{24, 25} {
		for _, e := range exprsOfLength(t, tokens) {
			list = append(list, impl.Expr{Tokens: e.Tokens[1:]}, joined(plain(4), e), joined(reading(0), e))
		}
	}
	return list
}

func checkIsExpr(t *testing.T, e impl.Expr, want bool) {
	t.Helper()
	if impl.IsExpr(e) != want || impl.IsValidExpr(e) != (want && len(e.Tokens) <= 24) {
		t.Fatalf("IsExpr(%v) = %v, IsValidExpr = %v; want an expression: %v", e, impl.IsExpr(e), impl.IsValidExpr(e), want)
	}
}

func TestExprConstants(t *testing.T) {
	kinds := []int{impl.TokNone, impl.TokEmpty, impl.TokLetter, impl.TokConcat, impl.TokUnion, impl.TokStar, impl.TokRepeat}
	if impl.MaxTokens != 24 || impl.MaxRepeat != 3 || !slices.Equal(kinds, []int{1, 2, 3, 4, 5, 6, 7}) {
		t.Error("constants", impl.MaxTokens, impl.MaxRepeat, kinds)
	}
}

func TestIsExpr(t *testing.T) {
	for _, e := range someExprs(t) {
		checkIsExpr(t, e, true)
	}
	for _, e := range noExprs(t) {
		checkIsExpr(t, e, false)
	}
	checkIsExpr(t, impl.Expr{}, false)
	checkIsExpr(t, impl.Expr{Tokens: []impl.Token{}}, false)
}

// Every token near the bounds of its fields is tried with every number of operands.
func TestIsExprFields(t *testing.T) {
	for kind := -1; kind <= 9; kind++ {
		for letter := -2; letter <= 10; letter++ {
			for low := -2; low <= 5; low++ {
				for high := -2; high <= 5; high++ {
					token := impl.Token{Kind: kind, Letter: letter, Low: low, High: high}
					for operands := range 4 {
						e := joined(token, slices.Repeat([]impl.Expr{impl.LetterExpr(8)}, operands)...)
						checkIsExpr(t, e, tokenNames[token] != "" && operands == operandsOf(token))
					}
				}
			}
		}
	}
}

// In an expression, any token may be replaced by another one with as many operands, and by no invalid one.
func TestIsExprTokens(t *testing.T) {
	for _, e := range someExprs(t) {
		for place, old := range e.Tokens {
			for _, token := range validTokens() {
				other := cloneExpr(e)
				other.Tokens[place] = token
				checkIsExpr(t, other, operandsOf(token) == operandsOf(old))
			}
			for _, token := range invalidTokens() {
				other := cloneExpr(e)
				other.Tokens[place] = token
				checkIsExpr(t, other, false)
			}
		}
	}
}

func TestIsExprShapes(t *testing.T) {
	eachExpr(fewTokens(), 6, func(e impl.Expr) { checkIsExpr(t, e, wantedIsExpr(e)) })
	eachExpr(validTokens(), 3, func(e impl.Expr) { checkIsExpr(t, e, wantedIsExpr(e)) })
	eachExpr([]impl.Token{reading(0), plain(4), plain(6)}, 9, func(e impl.Expr) { checkIsExpr(t, e, wantedIsExpr(e)) })
	r := rand.New(rand.NewSource(8888))
	for range 2000 {
		e := randomExpr(r, 1+r.Intn(40))
		checkIsExpr(t, e, true)
		place := r.Intn(len(e.Tokens))
		// Without one of its tokens it is an expression only if the token had exactly one operand.
		shorter := impl.Expr{Tokens: slices.Delete(slices.Clone(e.Tokens), place, place+1)}
		checkIsExpr(t, shorter, operandsOf(e.Tokens[place]) == 1)
	}
}

// An expression may have any number of tokens, a valid one at most MaxTokens.
func TestIsValidExprSizes(t *testing.T) {
	for _, tokens := range []int{1, 2, 22, 23, 24, 25, 26, 48, 49, 1000, 1001, 50000} {
		for _, e := range exprsOfLength(t, tokens) {
			if len(e.Tokens) != tokens || !impl.IsExpr(e) || impl.IsValidExpr(e) != (tokens <= 24) {
				t.Fatalf("%d tokens: IsExpr = %v, IsValidExpr = %v", len(e.Tokens), impl.IsExpr(e), impl.IsValidExpr(e))
			}
		}
	}
}

func checkSplit(t *testing.T, e impl.Expr, wantX impl.Expr, wantY impl.Expr) {
	t.Helper()
	if x, y := impl.SplitExpr(e); !sameExpr(x, wantX) || !sameExpr(y, wantY) {
		t.Fatalf("SplitExpr(%v) = %v, %v; want %v, %v", e, x, y, wantX, wantY)
	}
}

func TestSplitExpr(t *testing.T) {
	for _, c := range [][3]string{
		{"!", "", ""}, {"()", "", ""}, {"a", "", ""}, {"2", "", ""},
		{"a b .", "a", "b"}, {"a b |", "a", "b"}, {"a a |", "a", "a"}, {"! () .", "!", "()"},
		{"a *", "a", ""}, {"a * *", "a *", ""}, {"a {0,1}", "a", ""}, {"a {0,1} {2,3}", "a {0,1}", ""}, {"a b . *", "a b .", ""}, {"a b | {1,1}", "a b |", ""},
		{"a b . c .", "a b .", "c"}, {"a b c . .", "a", "b c ."}, {"a b | c a- | .", "a b |", "c a- |"}, {"a * b {0,3} |", "a *", "b {0,3}"}, {"a b- . * c |", "a b- . *", "c"}, {"a b c . * |", "a", "b c . *"},
		{"a b", "", ""}, {"a b c .", "", ""}, {"a .", "", ""}, {"*", "", ""}, {"", "", ""}, {"a b * . c", "", ""}, {"a {0,4}", "", ""}, {"a {0,0} *", "", ""},
	} {
		checkSplit(t, exprOf(t, c[0]), exprOf(t, c[1]), exprOf(t, c[2]))
	}
	for _, e := range noExprs(t) {
		checkSplit(t, e, impl.Expr{}, impl.Expr{})
	}
}

// checkOperands checks the operands of an expression, their own ones included: each of them is an expression, and they are all that it has beside its last token.
func checkOperands(t *testing.T, e impl.Expr) {
	t.Helper()
	checkIsExpr(t, e, true)
	wantX, wantY := wantedSplit(e)
	checkSplit(t, e, wantX, wantY)
	x, y := impl.SplitExpr(e)
	last := e.Tokens[len(e.Tokens)-1]
	operands := slices.DeleteFunc([]impl.Expr{x, y}, func(e impl.Expr) bool { return len(e.Tokens) == 0 })
	if len(operands) != operandsOf(last) || !sameExpr(joined(last, operands...), e) {
		t.Fatalf("SplitExpr(%v) = %v, %v", e, x, y)
	}
	for _, operand := range operands {
		checkOperands(t, operand)
	}
}

func TestSplitExprOperands(t *testing.T) {
	for _, e := range someExprs(t) {
		checkOperands(t, e)
	}
	eachExpr(fewTokens(), 5, func(e impl.Expr) {
		if wantedIsExpr(e) {
			checkOperands(t, e)
		} else {
			checkSplit(t, e, impl.Expr{}, impl.Expr{})
		}
	})
	r := rand.New(rand.NewSource(808))
	for range 1000 {
		checkOperands(t, randomExpr(r, 1+r.Intn(40)))
	}
}

func checkBuilt(t *testing.T, call string, e impl.Expr, want impl.Expr) {
	t.Helper()
	if !sameExpr(e, want) {
		t.Fatalf("%s = %v; want %v", call, e, want)
	}
}

func checkConcat(t *testing.T, a impl.Expr, b impl.Expr, want impl.Expr) {
	t.Helper()
	checkBuilt(t, fmt.Sprintf("ConcatExpr(%v, %v)", a, b), impl.ConcatExpr(a, b), want)
}

func checkUnion(t *testing.T, a impl.Expr, b impl.Expr, want impl.Expr) {
	t.Helper()
	checkBuilt(t, fmt.Sprintf("UnionExpr(%v, %v)", a, b), impl.UnionExpr(a, b), want)
}

func checkStar(t *testing.T, e impl.Expr, want impl.Expr) {
	t.Helper()
	checkBuilt(t, fmt.Sprintf("StarExpr(%v)", e), impl.StarExpr(e), want)
}

func checkRepeat(t *testing.T, e impl.Expr, low int, high int, want impl.Expr) {
	t.Helper()
	checkBuilt(t, fmt.Sprintf("RepeatExpr(%v, %d, %d)", e, low, high), impl.RepeatExpr(e, low, high), want)
}

func TestLetterExpr(t *testing.T) {
	for _, letter := range append(allLetters(), noLetters...) {
		checkBuilt(t, fmt.Sprintf("LetterExpr(%d)", letter), impl.LetterExpr(letter), impl.Expr{Tokens: []impl.Token{reading(letter)}})
		checkIsExpr(t, impl.LetterExpr(letter), letter >= 0 && letter <= 8)
	}
}

func TestConcatExpr(t *testing.T) {
	for _, c := range [][3]string{
		{"a", "b", "a b ."}, {"a", "a", "a a ."}, {"a b .", "c", "a b . c ."}, {"a", "b c .", "a b c . ."}, {"a *", "a *", "a * a * ."}, {"a () |", "b", "a () | b ."},
		{"!", "a", "!"}, {"a", "!", "!"}, {"!", "!", "!"}, {"!", "()", "!"}, {"()", "!", "!"}, {"!", "a b .", "!"}, {"a b | *", "!", "!"},
		{"()", "a", "a"}, {"a", "()", "a"}, {"()", "()", "()"}, {"()", "a b . *", "a b . *"}, {"a b . *", "()", "a b . *"},
		// Only a single token is simplified.
		{"! *", "a", "! * a ."}, {"a", "! *", "a ! * ."}, {"() *", "a", "() * a ."}, {"a", "() {0,1}", "a () {0,1} ."}, {"! ! |", "()", "! ! |"}, {"a ! .", "b", "a ! . b ."}, {"b", "a ! .", "b a ! . ."},
		{"0", "1", "0 1 ."},
	} {
		checkConcat(t, exprOf(t, c[0]), exprOf(t, c[1]), exprOf(t, c[2]))
	}
}

func TestUnionExpr(t *testing.T) {
	for _, c := range [][3]string{
		{"a", "b", "a b |"}, {"b", "a", "b a |"}, {"a b .", "c", "a b . c |"}, {"a", "b c .", "a b c . |"}, {"a", "a *", "a a * |"}, {"a", "a-", "a a- |"},
		{"!", "a", "a"}, {"a", "!", "a"}, {"!", "!", "!"}, {"!", "()", "()"}, {"()", "!", "()"}, {"!", "a b . *", "a b . *"}, {"a b . *", "!", "a b . *"},
		{"a", "a", "a"}, {"()", "()", "()"}, {"a b . *", "a b . *", "a b . *"}, {"a {1,2}", "a {1,2}", "a {1,2}"},
		// An operand that is not there adds nothing only if it is TokNone alone; TokEmpty is no such case, nor is an equal language.
		{"a", "()", "a () |"}, {"()", "a", "() a |"}, {"! *", "a", "! * a |"}, {"a", "! *", "a ! * |"}, {"a", "! a .", "a ! a . |"}, {"a {1,2}", "a {1,3}", "a {1,2} a {1,3} |"}, {"a {0,2}", "a {1,2}", "a {0,2} a {1,2} |"},
		{"a b |", "b a |", "a b | b a | |"}, {"a b |", "a", "a b | a |"}, {"a", "a b |", "a a b | |"},
	} {
		checkUnion(t, exprOf(t, c[0]), exprOf(t, c[1]), exprOf(t, c[2]))
	}
}

func TestStarExpr(t *testing.T) {
	for _, c := range [][2]string{
		{"a", "a *"}, {"2", "2 *"}, {"a b .", "a b . *"}, {"a b |", "a b | *"}, {"a {0,1}", "a {0,1} *"}, {"a {0,3} b .", "a {0,3} b . *"},
		{"!", "()"}, {"()", "()"}, {"a *", "a *"}, {"a * *", "a * *"}, {"a b . *", "a b . *"}, {"! *", "! *"}, {"() *", "() *"},
		// Only the last token counts, and only a single token is simplified.
		{"a * b .", "a * b . *"}, {"b a * .", "b a * . *"}, {"a * b * |", "a * b * | *"}, {"a * {1,2}", "a * {1,2} *"}, {"! ! .", "! ! . *"}, {"() () |", "() () | *"}, {"() {0,1}", "() {0,1} *"},
	} {
		checkStar(t, exprOf(t, c[0]), exprOf(t, c[1]))
	}
}

func TestRepeatExpr(t *testing.T) {
	for _, c := range []struct {
		e    string
		low  int
		high int
		want string
	}{
		{"a", 0, 0, "()"}, {"a", 0, 1, "a {0,1}"}, {"a", 0, 2, "a {0,2}"}, {"a", 0, 3, "a {0,3}"},
		{"a", 1, 1, "a"}, {"a", 1, 2, "a {1,2}"}, {"a", 1, 3, "a {1,3}"}, {"a", 2, 2, "a {2,2}"}, {"a", 2, 3, "a {2,3}"}, {"a", 3, 3, "a {3,3}"},
		{"a b . *", 0, 0, "()"}, {"a b . *", 1, 1, "a b . *"}, {"a b . *", 0, 1, "a b . * {0,1}"}, {"a {0,1}", 0, 1, "a {0,1} {0,1}"}, {"a {0,1}", 1, 1, "a {0,1}"}, {"a {0,1}", 0, 0, "()"},
		{"!", 0, 0, "()"}, {"!", 1, 1, "!"}, {"!", 0, 1, "! {0,1}"}, {"!", 2, 3, "! {2,3}"}, {"()", 0, 0, "()"}, {"()", 1, 1, "()"}, {"()", 0, 3, "() {0,3}"},
	} {
		checkRepeat(t, exprOf(t, c.e), c.low, c.high, exprOf(t, c.want))
		checkIsExpr(t, impl.RepeatExpr(exprOf(t, c.e), c.low, c.high), true)
	}
}

// The bounds are not checked: what is out of range gives a token that is not valid, except for 0 to 0, which gives the empty word, so that the result is valid although no token has these bounds.
func TestRepeatExprBounds(t *testing.T) {
	bounds := []int{math.MinInt, -1 << 32, -2, -1, 0, 1, 2, 3, 4, 5, 1 << 32, 1<<32 + 1, math.MaxInt}
	for _, low := range bounds {
		for _, high := range bounds {
			for _, s := range []string{"a", "!", "()", "a b . *", "a {0,1}"} {
				want := exprOf(t, s)
				switch {
				case low == 0 && high == 0:
					want = exprOf(t, "()")
				case low != 1 || high != 1:
					want = joined(repeating(low, high), want)
				}
				checkRepeat(t, exprOf(t, s), low, high, want)
				checkIsExpr(t, want, low == 0 && high == 0 || tokenNames[repeating(low, high)] != "")
			}
		}
	}
}

// Arguments that are no expressions are put together like all others.
func TestBuildingDoesNotCheck(t *testing.T) {
	a := impl.LetterExpr(0)
	for _, e := range noExprs(t) {
		if len(e.Tokens) == 1 && (e.Tokens[0].Kind == 1 || e.Tokens[0].Kind == 2) {
			continue
		}
		checkConcat(t, e, a, joined(plain(4), e, a))
		checkConcat(t, a, e, joined(plain(4), a, e))
		checkConcat(t, e, e, joined(plain(4), e, e))
		checkUnion(t, e, a, joined(plain(5), e, a))
		checkUnion(t, a, e, joined(plain(5), a, e))
		checkUnion(t, e, e, e)
		checkConcat(t, exprOf(t, "!"), e, exprOf(t, "!"))
		checkConcat(t, e, exprOf(t, "()"), e)
		checkConcat(t, exprOf(t, "()"), e, e)
		checkUnion(t, e, exprOf(t, "!"), e)
		checkUnion(t, exprOf(t, "!"), e, e)
		checkRepeat(t, e, 0, 0, exprOf(t, "()"))
		checkRepeat(t, e, 1, 1, e)
		checkRepeat(t, e, 0, 1, joined(repeating(0, 1), e))
		if len(e.Tokens) > 0 && e.Tokens[len(e.Tokens)-1].Kind == 6 {
			checkStar(t, e, e)
		} else {
			checkStar(t, e, joined(plain(6), e))
		}
	}
}

// An expression is of a kind alone by the kind of its only token; what is written for it has no other fields.
func TestAloneByKind(t *testing.T) {
	a, empty, none := exprOf(t, "a"), exprOf(t, "()"), exprOf(t, "!")
	for _, token := range []impl.Token{{Kind: 1, Letter: 5}, {Kind: 1, Low: -1}, {Kind: 1, High: 2}} {
		e := joined(token)
		checkConcat(t, e, a, none)
		checkConcat(t, a, e, none)
		checkUnion(t, e, a, a)
		checkUnion(t, a, e, a)
		checkUnion(t, none, e, e)
		checkUnion(t, e, none, none)
		checkStar(t, e, empty)
		checkStar(t, joined(plain(6), e), joined(plain(6), e))
	}
	for _, token := range []impl.Token{{Kind: 2, Letter: 5}, {Kind: 2, Low: -1}, {Kind: 2, High: 2}} {
		e := joined(token)
		checkConcat(t, e, a, a)
		checkConcat(t, a, e, a)
		checkConcat(t, empty, e, e)
		checkConcat(t, e, empty, empty)
		checkUnion(t, e, a, joined(plain(5), e, a))
		checkUnion(t, e, empty, joined(plain(5), e, empty))
		checkStar(t, e, empty)
	}
	starred := joined(impl.Token{Kind: 6, Letter: 5, Low: 1}, a)
	checkStar(t, starred, starred)
}

// language is a set of words that have a byte for each letter.
type language map[string]bool

// product returns the words of at most length letters that consist of a word of a and a word of b.
func product(a language, b language, length int) language {
	out := language{}
	for x := range a {
		for y := range b {
			if len(x)+len(y) <= length {
				out[x+y] = true
			}
		}
	}
	return out
}

func union(a language, b language) language {
	out := maps.Clone(a)
	maps.Copy(out, b)
	return out
}

// between returns what low to high words of the language form.
func between(a language, low int, high int, length int) language {
	out, power := language{}, language{"": true}
	for count := range high + 1 {
		if count >= low {
			out = union(out, power)
		}
		power = product(power, a, length)
	}
	return out
}

// wordsOf returns the words of at most length letters of an expression without the program.
func wordsOf(e impl.Expr, length int) language {
	last := e.Tokens[len(e.Tokens)-1]
	x, y := wantedSplit(e)
	switch last.Kind {
	case 2:
		return language{"": true}
	case 3:
		if length > 0 {
			return language{string([]byte{byte(last.Letter)}): true}
		}
	case 4:
		return product(wordsOf(x, length), wordsOf(y, length), length)
	case 5:
		return union(wordsOf(x, length), wordsOf(y, length))
	case 6:
		return between(wordsOf(x, length), 0, length, length)
	case 7:
		return between(wordsOf(x, length), last.Low, last.High, length)
	}
	return language{}
}

func checkLanguage(t *testing.T, e impl.Expr, want language) {
	t.Helper()
	if got := wordsOf(e, 3); !maps.Equal(got, want) {
		t.Fatalf("%v has the words %v; want %v", e, got, want)
	}
}

// Whatever is simplified, the operands are combined as the kinds of tokens say.
func TestBuildingKeepsLanguages(t *testing.T) {
	r := rand.New(rand.NewSource(80808))
	for range 3000 {
		a, b := randomExpr(r, 1+r.Intn(8)), randomExpr(r, 1+r.Intn(8))
		x, y := wordsOf(a, 3), wordsOf(b, 3)
		checkLanguage(t, impl.ConcatExpr(a, b), product(x, y, 3))
		checkLanguage(t, impl.UnionExpr(a, b), union(x, y))
		checkLanguage(t, impl.UnionExpr(a, a), x)
		checkLanguage(t, impl.StarExpr(a), between(x, 0, 3, 3))
		for high := range 4 {
			for low := range high + 1 {
				checkLanguage(t, impl.RepeatExpr(a, low, high), between(x, low, high, 3))
			}
		}
	}
}

func checkExprReversed(t *testing.T, e impl.Expr, want impl.Expr, wantOk bool) {
	t.Helper()
	if r, ok := impl.ReverseExpr(e); ok != wantOk || !sameExpr(r, want) {
		t.Fatalf("ReverseExpr(%v) = %v, %v; want %v, %v", e, r, ok, want, wantOk)
	}
}

// wantedReversed reverses an expression without the program.
func wantedReversed(e impl.Expr) impl.Expr {
	last := e.Tokens[len(e.Tokens)-1]
	x, y := wantedSplit(e)
	switch {
	case last.Kind == 4:
		return joined(last, wantedReversed(y), wantedReversed(x))
	case last.Kind == 5:
		return joined(last, wantedReversed(x), wantedReversed(y))
	case operandsOf(last) == 1:
		return joined(last, wantedReversed(x))
	case last.Kind == 3:
		return joined(reading([]int{1, 0, 3, 2, 5, 4, 6, 7, 8}[last.Letter]))
	}
	return e
}

// checkExprReversal checks the reversed expression and that reversing it again gives the expression.
func checkExprReversal(t *testing.T, e impl.Expr) {
	t.Helper()
	checkExprReversed(t, e, wantedReversed(e), true)
	reversed, _ := impl.ReverseExpr(e)
	checkIsExpr(t, reversed, true)
	checkExprReversed(t, reversed, e, true)
}

func TestReverseExpr(t *testing.T) {
	for _, c := range [][2]string{
		{"!", "!"}, {"()", "()"}, {"a", "a-"}, {"b-", "b"}, {"c", "c-"}, {"0", "0"}, {"1", "1"}, {"2", "2"},
		{"a b .", "b- a- ."}, {"a b |", "a- b- |"}, {"a *", "a- *"}, {"a {0,1}", "a- {0,1}"}, {"b- {2,3}", "b {2,3}"}, {"a 1 .", "1 a- ."}, {"0 2 |", "0 2 |"},
		{"a b . c .", "c- b- a- . ."}, {"a b c . .", "c- b- . a- ."}, {"a b . c |", "b- a- . c- |"}, {"a b | c .", "c- a- b- | ."}, {"a b . c 1 . .", "1 c- . b- a- . ."}, {"a b . * c- {1,2} .", "c {1,2} b- a- . * ."}, {"a b- . * c |", "b a- . * c- |"},
		{"! a .", "a- ! ."}, {"() a |", "() a- |"}, {"a a- .", "a a- ."}, {"a a |", "a- a- |"},
	} {
		checkExprReversed(t, exprOf(t, c[0]), exprOf(t, c[1]), true)
		checkExprReversed(t, exprOf(t, c[1]), exprOf(t, c[0]), true)
	}
	for _, e := range noExprs(t) {
		checkExprReversed(t, e, impl.Expr{}, false)
	}
}

func TestReverseExprTwice(t *testing.T) {
	for _, e := range someExprs(t) {
		checkExprReversal(t, e)
	}
	eachExpr(fewTokens(), 5, func(e impl.Expr) {
		if wantedIsExpr(e) {
			checkExprReversal(t, e)
		} else {
			checkExprReversed(t, e, impl.Expr{}, false)
		}
	})
	r := rand.New(rand.NewSource(18))
	for range 1000 {
		checkExprReversal(t, randomExpr(r, 1+r.Intn(40)))
	}
}

// The words of the reversed expression are the reversed words.
func TestReverseExprLanguage(t *testing.T) {
	r := rand.New(rand.NewSource(180))
	for range 2000 {
		e := randomExpr(r, 1+r.Intn(12))
		want := language{}
		for word := range wordsOf(e, 3) {
			reversed := []byte(word)
			slices.Reverse(reversed)
			for i, letter := range reversed {
				reversed[i] = byte(impl.InverseLetter(int(letter)))
			}
			want[string(reversed)] = true
		}
		reversed, _ := impl.ReverseExpr(e)
		checkLanguage(t, reversed, want)
	}
}

// With this many tokens, each function still does what it does with few; the nesting is as deep as the expression is long.
func TestLongExprs(t *testing.T) {
	for _, tokens := range []int{25, 1001, 50000} {
		for _, e := range exprsOfLength(t, tokens) {
			x, y := impl.SplitExpr(e)
			last := e.Tokens[tokens-1]
			if !impl.IsExpr(x) || impl.IsExpr(y) != (operandsOf(last) == 2) || !sameExpr(joined(last, x, y), e) {
				t.Fatalf("the operands of %d tokens", tokens)
			}
			reversed, ok := impl.ReverseExpr(e)
			again, okAgain := impl.ReverseExpr(reversed)
			if !ok || !okAgain || len(reversed.Tokens) != tokens || !impl.EqualExprs(again, e) {
				t.Fatalf("the reversal of %d tokens", tokens)
			}
			if s := impl.FormatExpr(e); s != "" {
				t.Fatalf("the format of %d tokens is %q", tokens, s)
			}
		}
	}
}

func checkExprsEqual(t *testing.T, a impl.Expr, b impl.Expr, want bool) {
	t.Helper()
	if impl.EqualExprs(a, b) != want || impl.EqualExprs(b, a) != want {
		t.Fatalf("EqualExprs(%v, %v) = %v, %v; want %v", a, b, impl.EqualExprs(a, b), impl.EqualExprs(b, a), want)
	}
}

func TestEqualExprs(t *testing.T) {
	for _, e := range append(someExprs(t), noExprs(t)...) {
		checkExprsEqual(t, e, cloneExpr(e), true)
		checkExprsEqual(t, e, joined(impl.Token{}, e), false)
		for place, token := range e.Tokens {
			checkExprsEqual(t, e, impl.Expr{Tokens: e.Tokens[:place]}, false)
			// A difference in a single field is a difference, in any place and of any kind.
			for _, near := range []impl.Token{
				{Kind: token.Kind + 1, Letter: token.Letter, Low: token.Low, High: token.High},
				{Kind: token.Kind, Letter: token.Letter + 1, Low: token.Low, High: token.High},
				{Kind: token.Kind, Letter: token.Letter, Low: token.Low + 1, High: token.High},
				{Kind: token.Kind, Letter: token.Letter, Low: token.Low, High: token.High + 1},
			} {
				other := cloneExpr(e)
				other.Tokens[place] = near
				checkExprsEqual(t, e, other, false)
			}
		}
	}
	checkExprsEqual(t, impl.Expr{}, impl.Expr{Tokens: []impl.Token{}}, true)
	checkExprsEqual(t, impl.Expr{}, impl.Expr{Tokens: []impl.Token{{}}}, false)
	// The tokens count, not the language.
	for _, c := range [][2]string{{"a b |", "b a |"}, {"a", "a {1,1}"}, {"a * *", "a *"}, {"a b . c .", "a b c . ."}, {"!", "! !"}, {"a b", "b a"}} {
		checkExprsEqual(t, exprOf(t, c[0]), exprOf(t, c[1]), false)
	}
}

func checkParsedExpr(t *testing.T, s string, want impl.Expr, wantOk bool) {
	t.Helper()
	if e, ok := impl.ParseExpr(s); ok != wantOk || !sameExpr(e, want) {
		t.Fatalf("ParseExpr(%q) = %v, %v; want %v, %v", s, e, ok, want, wantOk)
	}
}

// spelledExpr writes the valid tokens without the program, whether or not they are an expression.
func spelledExpr(e impl.Expr) string {
	var parts []string
	for _, token := range e.Tokens {
		parts = append(parts, tokenNames[token])
	}
	return strings.Join(parts, " ")
}

// checkExprFormat checks the format of the tokens, and what is read from it; only valid expressions have one.
func checkExprFormat(t *testing.T, e impl.Expr, valid bool) {
	t.Helper()
	want, back := "", impl.Expr{}
	if valid {
		want, back = spelledExpr(e), e
	}
	if s := impl.FormatExpr(e); s != want {
		t.Fatalf("FormatExpr(%v) = %q; want %q", e, s, want)
	}
	checkParsedExpr(t, spelledExpr(e), back, valid)
}

func TestFormatExpr(t *testing.T) {
	for _, s := range goodExprs {
		e := exprOf(t, s)
		if format := impl.FormatExpr(e); format != s {
			t.Errorf("FormatExpr(%v) = %q; want %q", e, format, s)
		}
		checkParsedExpr(t, s, e, true)
	}
	tokens := []impl.Token{{Kind: 3}, {Kind: 3, Letter: 3}, {Kind: 4}, {Kind: 3, Letter: 4}, {Kind: 7, High: 2}, {Kind: 5}}
	checkParsedExpr(t, "a b- . c {0,2} |", impl.Expr{Tokens: tokens}, true)
}

func TestExprRoundTrip(t *testing.T) {
	eachExpr(fewTokens(), 5, func(e impl.Expr) { checkExprFormat(t, e, wantedIsExpr(e)) })
	eachExpr(validTokens(), 3, func(e impl.Expr) { checkExprFormat(t, e, wantedIsExpr(e)) })
	r := rand.New(rand.NewSource(88))
	for tokens := 1; tokens <= 30; tokens++ {
		for range 200 {
			checkExprFormat(t, randomExpr(r, tokens), tokens <= 24)
		}
	}
}

func TestFormatExprInvalid(t *testing.T) {
	for _, e := range noExprs(t) {
		if s := impl.FormatExpr(e); s != "" {
			t.Errorf("FormatExpr(%v) = %q; want the empty string", e, s)
		}
	}
	for _, s := range badExprs {
		checkParsedExpr(t, s, impl.Expr{}, false)
	}
}

// The format has at most MaxTokens tokens, in both directions.
func TestFormatsOfMostTokens(t *testing.T) {
	for _, tokens := range []int{22, 23, 24, 25, 26, 49, 1000} {
		for _, e := range exprsOfLength(t, tokens) {
			checkExprFormat(t, e, tokens <= 24)
		}
	}
	longest := spelledExpr(exprsOfLength(t, 24)[0])
	checkParsedExpr(t, longest, exprOf(t, longest), true)
	for _, more := range []string{" ", "  ", " *", "*", " {1,1}", " a", " a .", " x", "\n", "\x00", " * *"} {
		checkParsedExpr(t, longest+more, impl.Expr{}, false)
	}
}

func TestParseExprInvalid(t *testing.T) {
	for _, s := range []string{
		" ", "  ", "\n", "\x00", "d", "d-", "A", "3", "9", "aa", "ab", "a--", "-a", "-", "0-", "00", "-1", "+", "?", "_", "none", "empty",
		"(", ")", "( )", "(())", "()()", "[]", "{}", "!!", "! !", "..", "||", "**", "!*", "()*", "\u03b5", "\u2205", "a\u00b7b", "a \u00b7", "a b \u00b7",
		" a", "a ", "  a", "a  ", "a\n", "\na", "a\x00", "\x00a", "a\t", "\xff", "a\xff", "\xffa",
		"a b.", "ab.", "ab .", "a.b", "a . b", "a|b", "a | b", "ab|", "a*", "a b *.", "a  *", "a b  .", "a b . ", " a b .", "a\tb .", "a\nb .", "a,b,.", "a b\u00a0.", "(a b .)", "(a) *",
		"a {}", "a {,}", "a {0}", "a {1}", "a {0,}", "a {,1}", "a {0 1}", "a {0, 1}", "a {0,1", "a 0,1}", "a 0,1", "a {0;1}", "a {0,1,2}", "a {0,1}}", "a {{0,1}", "a {{0,1}}", "a {0,1}{0,1}", "a{0,1}", "a {0,1}*", "a (0,1)", "a [0,1]", "a { 0,1}", "a {0,1 }", "a {0 ,1}", "a {0,,1}", "a {0.1}", "a {0-1}",
		"a {00,1}", "a {0,01}", "a {01,2}", "a {-0,1}", "a {0,-0}", "a {+0,1}", "a {0,+1}", "a {-1,1}", "a {0,-1}", "a {0x0,1}", "a {a,b}", "a {0,a}", "a {\u0660,1}", "a {0,\uff11}", "a {\x00,1}", "a {0,1\x00}",
		"a {0,0}", "a {0,4}", "a {0,9}", "a {4,4}", "a {2,1}", "a {1,0}", "a {3,2}", "a {0,10}", "a {0,100}", "a {10,11}", "a {0,4294967297}", "a {4294967296,4294967297}", "a {0,18446744073709551617}", "a {0,999999999}", "a {-999999999,1}",
		"{0,1} a", "a b {0,1}", "* a", ". a b", "| a b", "a * b", "a b * c", "0 1:0a1", "012", "+1:0a1", "0 1-",
		strings.Repeat("a", 1000), strings.Repeat(" ", 1000), strings.Repeat("*", 1000), strings.Repeat("a ", 100000), "a" + strings.Repeat(" *", 100000), "a {" + strings.Repeat("0", 1000) + ",1}", "a {0," + strings.Repeat("1", 1000) + "}",
	} {
		checkParsedExpr(t, s, impl.Expr{}, false)
	}
	checkParsedExpr(t, "", impl.Expr{}, false)
}

var tokenFormat = regexp.MustCompile(`^(?:!|\(\)|[abc]-?|[012]|[.|*]|\{0,[123]\}|\{1,[123]\}|\{2,[23]\}|\{3,3\})$`)

// isExprFormat reduces the parts of the string, each with its number of operands, until they are one expression.
func isExprFormat(s string) bool {
	count := 0
	parts := strings.Split(s, " ")
	for _, part := range parts {
		if !tokenFormat.MatchString(part) {
			return false
		}
		operands := map[byte]int{'.': 2, '|': 2, '*': 1, '{': 1}[part[0]]
		if count < operands {
			return false
		}
		count += 1 - operands
	}
	return count == 1 && len(parts) <= 24
}

// checkExprAccepted accepts the string exactly if it has the form of a format; then it must be the format of what was read.
func checkExprAccepted(t *testing.T, s string) {
	t.Helper()
	e, ok := impl.ParseExpr(s)
	if ok != isExprFormat(s) {
		t.Fatalf("ParseExpr(%q) = %v, %v", s, e, ok)
	}
	if ok && (spelledExpr(e) != s || impl.FormatExpr(e) != s) || !ok && !sameExpr(e, impl.Expr{}) {
		t.Fatalf("ParseExpr(%q) = %v, %v", s, e, ok)
	}
}

func TestParseExprAcceptsNothingElse(t *testing.T) {
	check := func(s string) { checkExprAccepted(t, s) }
	eachString(allBytes(), 2, check)
	eachString("a-0 .|*!()", 5, check)
	eachString("a *.b", 8, check)
	eachString("{}0123,-", 5, func(s string) { check("a " + s) })
	for _, s := range []string{"a b- . c {0,2} |", "a b- . * c |", "! () | 2 {3,3} .", spelledExpr(exprsOfLength(t, 24)[1])} {
		eachStringNear(s, check)
	}
}

// roomyExpr returns the expression with unused capacity in its list, and the memory behind it.
func roomyExpr(e impl.Expr) (impl.Expr, []impl.Token) {
	memory := slices.Repeat([]impl.Token{{Kind: 77, Letter: 77, Low: 77, High: 77}}, len(e.Tokens)+100)
	copy(memory, e.Tokens)
	return impl.Expr{Tokens: memory[:len(e.Tokens)]}, memory
}

// scribbleTokens overwrites a list of tokens, its unused capacity included.
func scribbleTokens(list []impl.Token) {
	for i := range list[:cap(list)] {
		list[:cap(list)][i] = impl.Token{Kind: 1000, Letter: 1000, Low: 1000, High: 1000}
	}
}

// exprCalls returns calls that give an expression for two expressions.
func exprCalls() []func(a impl.Expr, b impl.Expr) impl.Expr {
	calls := []func(a impl.Expr, b impl.Expr) impl.Expr{
		impl.ConcatExpr,
		impl.UnionExpr,
		func(a impl.Expr, b impl.Expr) impl.Expr { return impl.StarExpr(a) },
		func(a impl.Expr, b impl.Expr) impl.Expr {
			x, _ := impl.SplitExpr(a)
			return x
		},
		func(a impl.Expr, b impl.Expr) impl.Expr {
			_, y := impl.SplitExpr(a)
			return y
		},
		func(a impl.Expr, b impl.Expr) impl.Expr {
			reversed, _ := impl.ReverseExpr(a)
			return reversed
		},
	}
	for _, bounds := range [][2]int{{0, 0}, {0, 1}, {1, 1}, {2, 3}, {-1, 7}} {
		calls = append(calls, func(a impl.Expr, b impl.Expr) impl.Expr { return impl.RepeatExpr(a, bounds[0], bounds[1]) })
	}
	return calls
}

// exprPairs returns pairs of expressions, also such that are simplified in every way, and such that are no expressions.
func exprPairs(t *testing.T) [][2]impl.Expr {
	var list [][2]impl.Expr
	others := []impl.Expr{exprOf(t, "!"), exprOf(t, "()"), exprOf(t, "a"), exprOf(t, "a b . *"), {}}
	for _, e := range append(someExprs(t), noExprs(t)...) {
		list = append(list, [2]impl.Expr{e, e})
		for _, other := range others {
			list = append(list, [2]impl.Expr{e, other}, [2]impl.Expr{other, e})
		}
	}
	return list
}

func TestExprArgumentsStay(t *testing.T) {
	for _, pair := range exprPairs(t) {
		a, memoryA := roomyExpr(pair[0])
		b, memoryB := roomyExpr(pair[1])
		beforeA, beforeB := slices.Clone(memoryA), slices.Clone(memoryB)
		for _, call := range exprCalls() {
			scribbleTokens(call(a, b).Tokens)
			scribbleTokens(call(a, a).Tokens)
		}
		impl.IsExpr(a)
		impl.IsValidExpr(a)
		impl.EqualExprs(a, b)
		impl.EqualExprs(a, a)
		impl.FormatExpr(a)
		if !slices.Equal(memoryA, beforeA) || !slices.Equal(memoryB, beforeB) {
			t.Fatalf("the arguments %v and %v have changed", pair[0], pair[1])
		}
	}
}

func TestExprResultsAreNewMemory(t *testing.T) {
	for _, pair := range exprPairs(t) {
		for i, call := range exprCalls() {
			a, memoryA := roomyExpr(pair[0])
			b, memoryB := roomyExpr(pair[1])
			first := call(a, b)
			want := cloneExpr(first)
			scribbleTokens(call(a, b).Tokens)
			scribbleTokens(memoryA)
			scribbleTokens(memoryB)
			if !sameExpr(first, want) {
				t.Fatalf("call %d: the result for %v and %v shares memory", i, pair[0], pair[1])
			}
		}
	}
}

// Both results of SplitExpr have memory of their own, unused capacity included; so have the results of LetterExpr and ParseExpr.
func TestOtherExprResultsAreNewMemory(t *testing.T) {
	for _, e := range someExprs(t) {
		for place := range 2 {
			x, y := impl.SplitExpr(e)
			both := [2]impl.Expr{x, y}
			want := cloneExpr(both[1-place])
			scribbleTokens(both[place].Tokens)
			if !sameExpr(both[1-place], want) {
				t.Fatalf("the operands of %v share memory", e)
			}
		}
		if s := impl.FormatExpr(e); s != "" {
			first, _ := impl.ParseExpr(s)
			again, _ := impl.ParseExpr(s)
			scribbleTokens(again.Tokens)
			checkBuilt(t, fmt.Sprintf("ParseExpr(%q)", s), first, e)
			checkParsedExpr(t, s, e, true)
		}
	}
	for _, letter := range []int{0, 5, 8, -1} {
		scribbleTokens(impl.LetterExpr(letter).Tokens)
		checkBuilt(t, fmt.Sprintf("LetterExpr(%d)", letter), impl.LetterExpr(letter), joined(reading(letter)))
	}
	for range 2 {
		for _, e := range []impl.Expr{impl.ConcatExpr(exprOf(t, "!"), exprOf(t, "a")), impl.StarExpr(exprOf(t, "!")), impl.RepeatExpr(exprOf(t, "a"), 0, 0)} {
			checkIsExpr(t, e, true)
			scribbleTokens(e.Tokens)
		}
	}
}
