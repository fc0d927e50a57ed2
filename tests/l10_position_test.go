package tests

import (
	"maps"
	"math"
	"math/rand"
	"slices"
	"strings"
	"testing"

	"loop.example/g01922/impl"
)

func TestPositionConstants(t *testing.T) {
	if impl.MaxPositions != 20 || impl.MaxRuns != 1000000 {
		t.Error("constants", impl.MaxPositions, impl.MaxRuns)
	}
}

// letterless returns expressions without letters, among them such that are empty only, such that match nothing, and repetitions of both.
func letterless(t *testing.T) []impl.Expr {
	list := []impl.Expr{exprOf(t, "()"), exprOf(t, "!")}
	for _, operand := range []string{"()", "!", "! * () .", "() ! |", "() ! .", "! ! |", "() () ."} {
		for _, last := range []string{"*", "{0,1}", "{0,3}", "{1,1}", "{1,2}", "{2,2}", "{2,3}", "{3,3}", "{1,3} *", "* {2,3}"} {
			list = append(list, exprOf(t, operand+" "+last))
		}
	}
	return list
}

// eachListedExpr calls f for valid expressions that are written out.
func eachListedExpr(t *testing.T, f func(e impl.Expr)) {
	for _, e := range slices.Concat(letterless(t), nullableOperands(t)) {
		f(e)
	}
	for _, s := range goodExprs {
		f(exprOf(t, s))
	}
}

func checkExpanded(t *testing.T, e impl.Expr, want impl.Expr, wantOk bool) {
	t.Helper()
	if x, ok := impl.ExpandExpr(e); ok != wantOk || !sameExpr(x, want) {
		t.Fatalf("ExpandExpr(%v) = %v, %v; want %v, %v", e, x, ok, want, wantOk)
	}
}

func TestExpandExpr(t *testing.T) {
	for _, c := range [][2]string{
		// The example of the document.
		{"a {1,2}", "a a () . () | ."},
		{"a {0,1}", "a () . () |"}, {"a {0,2}", "a a () . () | . () |"}, {"a {0,3}", "a a a () . () | . () | . () |"},
		{"a {1,1}", "a () ."}, {"a {1,3}", "a a a () . () | . () | ."}, {"a {2,2}", "a a () . ."}, {"a {2,3}", "a a a () . () | . ."}, {"a {3,3}", "a a a () . . ."},
		{"a b . {2,2}", "a b . a b . () . ."}, {"a b | * {0,1}", "a b | * () . () |"}, {"1 {2,2} *", "1 1 () . . *"},
		{"a {1,1} {1,1}", "a () . () ."}, {"a {0,1} {1,1}", "a () . () | () ."}, {"a {1,1} {0,1}", "a () . () . () |"}, {"a {1,1} {2,2}", "a () . a () . () . ."}, {"a {2,2} {1,2}", "a a () . . a a () . . () . () | ."},
		{"b a {0,1} .", "b a () . () | ."}, {"a {0,1} b .", "a () . () | b ."}, {"a {1,1} b {2,2} |", "a () . b b () . . |"}, {"a- {1,1} * c- {1,1} .", "a- () . * c- () . ."},
		// Nothing is simplified.
		{"! {1,1}", "! () ."}, {"! {0,2}", "! ! () . () | . () |"}, {"() {1,1}", "() () ."}, {"() {0,1}", "() () . () |"}, {"() {2,3}", "() () () () . () | . ."}, {"! * {1,1}", "! * () ."},
		{"! a {1,1} .", "! a () . ."}, {"() a {1,1} .", "() a () . ."}, {"a {1,1} a {1,1} |", "a () . a () . |"}, {"a {1,1} ! |", "a () . ! |"}, {"a * {1,1} *", "a * () . *"},
	} {
		checkExpanded(t, exprOf(t, c[0]), exprOf(t, c[1]), true)
	}
}

// Without a repetition the expression stays as it is, even where chapter 8 would simplify it.
func TestExpandWithoutRepetitions(t *testing.T) {
	for _, s := range append([]string{"! a .", "a ! .", "() a .", "a () .", "! a |", "a ! |", "a a |", "! *", "() *", "a * *", "! ! .", "() () |"}, goodExprs...) {
		if !strings.Contains(s, "{") {
			checkExpanded(t, exprOf(t, s), exprOf(t, s), true)
		}
	}
	r := rand.New(rand.NewSource(10))
	for range 2000 {
		if e := randomExpr(r, 1+r.Intn(24)); !slices.ContainsFunc(e.Tokens, func(t impl.Token) bool { return t.Kind == 7 }) {
			checkExpanded(t, e, e, true)
		}
	}
}

// wantedBound returns the size bound of the document; no valid expression needs the limit of 100000 for its number to fit.
func wantedBound(e impl.Expr) int {
	last := e.Tokens[len(e.Tokens)-1]
	x, y := wantedSplit(e)
	switch {
	case last.Kind == 7:
		return (wantedBound(x)+3)*last.High + 1
	case operandsOf(last) == 1:
		return wantedBound(x) + 1
	case operandsOf(last) == 2:
		return wantedBound(x) + wantedBound(y) + 1
	}
	return 1
}

// wantedExpanded replaces the repetitions, from the innermost replacement outwards, however many tokens that takes.
func wantedExpanded(e impl.Expr) impl.Expr {
	last := e.Tokens[len(e.Tokens)-1]
	x, y := wantedSplit(e)
	switch operandsOf(last) {
	case 0:
		return e
	case 2:
		return joined(last, wantedExpanded(x), wantedExpanded(y))
	}
	x = wantedExpanded(x)
	if last.Kind == 6 {
		return joined(last, x)
	}
	empty := joined(plain(2))
	out := empty
	for high := 1; high <= last.High; high++ {
		out = joined(plain(4), x, out)
		if high <= last.High-last.Low {
			out = joined(plain(5), out, empty)
		}
	}
	return out
}

// checkExpansion checks the expansion of a valid expression and returns it.
func checkExpansion(t *testing.T, e impl.Expr) (impl.Expr, bool) {
	t.Helper()
	if wantedBound(e) > 5000 {
		checkExpanded(t, e, impl.Expr{}, false)
		return impl.Expr{}, false
	}
	want := wantedExpanded(e)
	if len(want.Tokens) > 400 {
		checkExpanded(t, e, impl.Expr{}, false)
		return impl.Expr{}, false
	}
	checkExpanded(t, e, want, true)
	for _, token := range want.Tokens {
		if token.Kind == 7 {
			t.Fatalf("the expansion %v of %v has a repetition", want, e)
		}
	}
	return want, true
}

func TestExpansionKeepsLanguage(t *testing.T) {
	check := func(e impl.Expr) {
		if x, ok := checkExpansion(t, e); ok && len(x.Tokens) <= 100 && !maps.Equal(wordsOf(x, 3), wordsOf(e, 3)) {
			t.Fatalf("the expansion %v of %v has other words", x, e)
		}
	}
	eachListedExpr(t, check)
	eachShortExpr(check)
	r := rand.New(rand.NewSource(1010))
	for range 1000 {
		check(randomExpr(r, 1+r.Intn(24)))
	}
}

func TestExpansionOfMostTokens(t *testing.T) {
	for tokens, list := range map[int][]string{
		399: {"a {1,3} {1,3} {1,3} {2,3}", "a {0,1} {0,2} {0,2} {1,3} {2,3}", "a {0,3} {1,3} {2,2} {2,2} {1,2}"},
		400: {"a {0,2} * {0,3} {0,3} {0,3}", "a {1,3} {1,3} {1,3} {2,3} *", "a {1,3} {1,3} {1,3} * {3,3}", "a {1,3} * {2,3} {2,3} {3,3}"},
		401: {"a {1,3} {1,3} {1,3} {1,3}", "a {0,1} {0,2} {0,2} {1,3} {1,3}", "a {0,3} {1,3} {2,2} {1,2} {2,2}", "a {1,3} {1,3} {1,3} {2,3} b ."},
		402: {"a {1,3} {1,3} {1,3} {1,3} *", "a {1,3} {1,3} {1,3} * {2,3}", "a {0,2} * {0,3} {0,3} {0,3} b ."},
	} {
		for _, s := range list {
			e := exprOf(t, s)
			want := wantedExpanded(e)
			if len(want.Tokens) != tokens || wantedBound(e) > 5000 {
				t.Fatalf("%q has %d tokens, and the size bound %d", s, len(want.Tokens), wantedBound(e))
			}
			if tokens > 400 {
				want = impl.Expr{}
			}
			checkExpanded(t, e, want, tokens <= 400)
		}
	}
}

// The size bound is about twice as large as the expansion at most, so an expression that reaches its limit has too many tokens already.
func TestExpandAtSizeBound(t *testing.T) {
	for bound, list := range map[int][]string{
		4999: {"a {1,1} {3,3} {3,3} * {2,2} {3,3} {1,1} {3,3} {3,3}"},
		5000: {"a {1,1} {3,3} {3,3} * {2,2} {3,3} {1,1} {3,3} {3,3} *", "a {1,1} {3,3} {3,3} * {2,2} {3,3} {1,1} {2,3} {3,3} *"},
		5001: {"a {1,1} {2,2} {2,2} {3,3} {2,2} {3,3} {3,3} {2,2}", "a {1,1} {3,3} {3,3} * {2,2} {3,3} {1,1} {3,3} {3,3} * *"},
	} {
		for _, s := range list {
			e := exprOf(t, s)
			if wantedBound(e) != bound {
				t.Fatalf("%q has the size bound %d; want %d", s, wantedBound(e), bound)
			}
			checkExpanded(t, e, impl.Expr{}, false)
			checkBuiltPositions(t, e, impl.Positions{}, false)
		}
	}
	r := rand.New(rand.NewSource(5000))
	for range 3000 {
		e := randomExpr(r, 12+r.Intn(13))
		if bound := wantedBound(e); bound <= 20000 && bound > 2*len(wantedExpanded(e).Tokens) {
			t.Fatalf("%v has the size bound %d, but %d tokens", e, bound, len(wantedExpanded(e).Tokens))
		}
	}
}

// Such an expansion would have up to 10^11 tokens; it must not be tried.
func TestExpandOfDeepNesting(t *testing.T) {
	for _, s := range []string{"a" + strings.Repeat(" {3,3}", 23), "!" + strings.Repeat(" {0,3}", 23), "()" + strings.Repeat(" {1,3}", 23), "a" + strings.Repeat(" {2,2}", 23), "a" + strings.Repeat(" {3,3} *", 11), "a" + strings.Repeat(" {3,3} b .", 7), "b a" + strings.Repeat(" {3,3}", 21) + " ."} {
		checkExpanded(t, exprOf(t, s), impl.Expr{}, false)
		checkBuiltPositions(t, exprOf(t, s), impl.Positions{}, false)
	}
	if x, ok := checkExpansion(t, exprOf(t, "a"+strings.Repeat(" {1,1}", 23))); !ok || len(x.Tokens) != 47 {
		t.Error(len(x.Tokens), ok)
	}
}

func TestExpandInvalid(t *testing.T) {
	for _, e := range noExprs(t) {
		checkExpanded(t, e, impl.Expr{}, false)
		checkBuiltPositions(t, e, impl.Positions{}, false)
	}
	checkExpanded(t, impl.Expr{}, impl.Expr{}, false)
	for _, tokens := range []int{22, 23, 24, 25, 26, 400, 401, 50001} {
		for _, i := range []int{0, 3} {
			e := exprsOfLength(t, tokens)[i]
			if tokens <= 24 {
				checkExpanded(t, e, e, true)
				continue
			}
			checkExpanded(t, e, impl.Expr{}, false)
			checkBuiltPositions(t, e, impl.Positions{}, false)
		}
	}
}

func samePositions(a impl.Positions, b impl.Positions) bool {
	return slices.Equal(a.Letters, b.Letters) && slices.Equal(a.Follow, b.Follow) && a.First == b.First && a.Last == b.Last && a.Nullable == b.Nullable
}

func clonePositions(p impl.Positions) impl.Positions {
	p.Letters, p.Follow = slices.Clone(p.Letters), slices.Clone(p.Follow)
	return p
}

func checkBuiltPositions(t *testing.T, e impl.Expr, want impl.Positions, wantOk bool) {
	t.Helper()
	if p, ok := impl.BuildPositions(e); ok != wantOk || !samePositions(p, want) {
		t.Fatalf("BuildPositions(%v) = %v, %v; want %v, %v", e, p, ok, want, wantOk)
	}
}

func TestBuildPositions(t *testing.T) {
	for _, c := range []struct {
		e, letters  string
		first, last int
		nullable    bool
		follow      []int
	}{
		{"a", "a", 1, 1, false, []int{0}}, {"2", "2", 1, 1, false, []int{0}},
		{"a *", "a", 1, 1, true, []int{1}}, {"a * *", "a", 1, 1, true, []int{1}}, {"a () |", "a", 1, 1, true, []int{0}}, {"a () .", "a", 1, 1, false, []int{0}}, {"() a .", "a", 1, 1, false, []int{0}},
		{"a b .", "a b", 1, 2, false, []int{2, 0}}, {"a b |", "a b", 3, 3, false, []int{0, 0}}, {"a a |", "a a", 3, 3, false, []int{0, 0}},
		{"a b . *", "a b", 1, 2, true, []int{2, 1}}, {"a b | *", "a b", 3, 3, true, []int{3, 3}}, {"a b | * c .", "a b c", 7, 4, false, []int{7, 7, 0}},
		{"a * b * .", "a b", 3, 3, true, []int{3, 2}}, {"a * b .", "a b", 3, 2, false, []int{3, 0}}, {"a b * .", "a b", 1, 3, false, []int{2, 2}}, {"a () | b .", "a b", 3, 2, false, []int{2, 0}}, {"a b () | .", "a b", 1, 3, false, []int{2, 0}},
		{"a b . c .", "a b c", 1, 4, false, []int{2, 4, 0}}, {"a b c . .", "a b c", 1, 4, false, []int{2, 4, 0}}, {"a b c * . .", "a b c", 1, 6, false, []int{2, 4, 4}}, {"a b * . c .", "a b c", 1, 4, false, []int{6, 6, 0}}, {"a * b * . c * .", "a b c", 7, 7, true, []int{7, 6, 4}},
		{"a a- . 1 . a- .", "a a- 1 a-", 1, 8, false, []int{2, 4, 8, 0}}, {"a b . b a . |", "a b b a", 5, 10, false, []int{2, 0, 8, 0}}, {"a b c | . * 2 .", "a b c 2", 9, 8, false, []int{6, 9, 9, 0}},
		{"a {1,1}", "a", 1, 1, false, []int{0}}, {"a {0,1}", "a", 1, 1, true, []int{0}}, {"a {1,2}", "a a", 1, 3, false, []int{2, 0}}, {"a {0,2}", "a a", 1, 3, true, []int{2, 0}}, {"a {2,2}", "a a", 1, 2, false, []int{2, 0}}, {"a {2,3}", "a a a", 1, 6, false, []int{2, 4, 0}}, {"a {3,3}", "a a a", 1, 4, false, []int{2, 4, 0}},
		{"a {2,2} *", "a a", 1, 2, true, []int{2, 1}}, {"a * {2,2}", "a a", 3, 3, true, []int{3, 2}}, {"a {0,1} {2,2}", "a a", 3, 3, true, []int{2, 0}}, {"a b . {0,2}", "a b a b", 1, 10, true, []int{2, 4, 8, 0}}, {"b a {0,1} .", "b a", 1, 3, false, []int{2, 0}},
		// Where one part matches nothing, the sets are still those of the construction.
		{"a ! .", "a", 1, 0, false, []int{0}}, {"! a .", "a", 0, 1, false, []int{0}}, {"a ! |", "a", 1, 1, false, []int{0}}, {"a ! . *", "a", 1, 0, true, []int{0}}, {"a ! . b .", "a b", 1, 2, false, []int{0, 0}}, {"a ! b . .", "a b", 1, 2, false, []int{0, 0}}, {"a ! . b |", "a b", 3, 2, false, []int{0, 0}}, {"a * ! . b * .", "a b", 1, 2, false, []int{1, 2}}, {"! {1,1} a .", "a", 0, 1, false, []int{0}}, {"! {0,1} a .", "a", 1, 1, false, []int{0}},
		// The edge case: no letters.
		{"()", "", 0, 0, true, nil}, {"!", "", 0, 0, false, nil}, {"! *", "", 0, 0, true, nil}, {"() *", "", 0, 0, true, nil}, {"() {1,1}", "", 0, 0, true, nil}, {"() {2,3}", "", 0, 0, true, nil}, {"! {0,1}", "", 0, 0, true, nil}, {"! {0,3}", "", 0, 0, true, nil}, {"! {1,1}", "", 0, 0, false, nil}, {"! {1,3}", "", 0, 0, false, nil}, {"! {2,2}", "", 0, 0, false, nil}, {"! * {2,2}", "", 0, 0, true, nil},
		{"() () .", "", 0, 0, true, nil}, {"() ! .", "", 0, 0, false, nil}, {"! () .", "", 0, 0, false, nil}, {"() ! |", "", 0, 0, true, nil}, {"! ! |", "", 0, 0, false, nil},
	} {
		want := impl.Positions{Letters: wordFrom(t, c.letters), First: c.first, Last: c.last, Follow: c.follow, Nullable: c.nullable}
		checkBuiltPositions(t, exprOf(t, c.e), want, true)
	}
}

// part describes a part of an expression with positions that are numbered from 0 within it.
type part struct {
	letters  []int
	first    []int
	last     []int
	follows  [][2]int
	nullable bool
}

func shifted(list []int, by int) []int {
	var out []int
	for _, n := range list {
		out = append(out, n+by)
	}
	return out
}

func (x part) followed(by [][2]int) part {
	x.follows = slices.Concat(x.follows, by)
	return x
}

func pairsOf(a []int, b []int) [][2]int {
	var out [][2]int
	for _, m := range a {
		for _, n := range b {
			out = append(out, [2]int{m, n})
		}
	}
	return out
}

// wantedPart follows the document for an expression without repetitions, with lists instead of sets.
func wantedPart(e impl.Expr) part {
	last := e.Tokens[len(e.Tokens)-1]
	left, right := wantedSplit(e)
	switch last.Kind {
	case 2:
		return part{nullable: true}
	case 3:
		return part{letters: []int{last.Letter}, first: []int{0}, last: []int{0}}
	case 6:
		x := wantedPart(left)
		x.nullable = true
		return x.followed(pairsOf(x.last, x.first))
	case 1:
		return part{}
	}
	x, y := wantedPart(left), wantedPart(right)
	yFirst, yLast := shifted(y.first, len(x.letters)), shifted(y.last, len(x.letters))
	out := part{letters: slices.Concat(x.letters, y.letters)}.followed(x.follows)
	for _, pair := range y.follows {
		out.follows = append(out.follows, [2]int{pair[0] + len(x.letters), pair[1] + len(x.letters)})
	}
	if last.Kind == 5 {
		out.first, out.last, out.nullable = slices.Concat(x.first, yFirst), slices.Concat(x.last, yLast), x.nullable || y.nullable
		return out
	}
	out.first, out.last, out.nullable = x.first, yLast, x.nullable && y.nullable
	if x.nullable {
		out.first = slices.Concat(x.first, yFirst)
	}
	if y.nullable {
		out.last = slices.Concat(x.last, yLast)
	}
	return out.followed(pairsOf(x.last, yFirst))
}

func (x part) positions() impl.Positions {
	p := impl.Positions{Letters: x.letters, Follow: make([]int, len(x.letters)), Nullable: x.nullable}
	for _, n := range x.first {
		p.First |= 1 << n
	}
	for _, n := range x.last {
		p.Last |= 1 << n
	}
	for _, pair := range x.follows {
		p.Follow[pair[0]] |= 1 << pair[1]
	}
	return p
}

// checkPositions checks the positions of a valid expression; they need not exist.
func checkPositions(t *testing.T, e impl.Expr) (impl.Positions, bool) {
	t.Helper()
	x, ok := checkExpansion(t, e)
	if !ok {
		checkBuiltPositions(t, e, impl.Positions{}, false)
		return impl.Positions{}, false
	}
	letters := 0
	for _, token := range x.Tokens {
		if token.Kind == 3 {
			letters++
		}
	}
	if letters > 20 {
		checkBuiltPositions(t, e, impl.Positions{}, false)
		return impl.Positions{}, false
	}
	want := wantedPart(x).positions()
	checkBuiltPositions(t, e, want, true)
	if !impl.IsValidPositions(want) || want.Nullable != impl.Nullable(e) {
		t.Fatalf("%v has the positions %v", e, want)
	}
	return want, true
}

// eachPositionsExpr calls f for valid expressions of all kinds.
func eachPositionsExpr(t *testing.T, f func(e impl.Expr)) {
	eachListedExpr(t, f)
	for _, e := range slices.Concat(exprsOfLength(t, 23), exprsOfLength(t, 24)) {
		f(e)
	}
	eachShortExpr(f)
	r := rand.New(rand.NewSource(101))
	for range 2000 {
		f(randomExpr(r, 1+r.Intn(24)))
	}
}

func TestBuildPositionsIsConstruction(t *testing.T) {
	built := 0
	eachPositionsExpr(t, func(e impl.Expr) {
		if _, ok := checkPositions(t, e); ok {
			built++
		}
	})
	if built < 3000 {
		t.Errorf("only %d expressions have positions", built)
	}
}

func TestMostPositions(t *testing.T) {
	for letters, list := range map[int][]string{
		19: {"a {3,3} {3,3} {2,2} b .", "a {3,3} {3,3} {2,2} b |"},
		20: {"a {3,3} {3,3} {2,2} a {2,2} .", "a b . {3,3} {3,3} c a- . |", "a b | {3,3} {3,3} * 1 2 | * .", "a {2,2} {2,2} {2,2} {2,2} b {2,2} {2,2} |"},
		21: {"a {3,3} {3,3} {2,2} a {3,3} .", "a b . {3,3} {3,3} c a- . | 0 .", "a {3,3} b . {3,3} c {3,3} {3,3} |", "a b . {3,3} {3,3} c a- . | 0 ! . |"},
		63: {"a {3,3} {2,2} a . {3,3} {3,3}"},
		64: {"a {2,2} {2,2} {2,2} {2,2} {2,2} {2,2}"},
		65: {"a {2,2} {2,2} {2,2} {2,2} {2,2} {2,2} b |"},
		81: {"a {3,3} {3,3} {3,3} {3,3}"},
	} {
		for _, s := range list {
			e := exprOf(t, s)
			if n := len(wantedPart(wantedExpanded(e)).letters); n != letters || len(wantedExpanded(e).Tokens) > 400 {
				t.Fatalf("%q has %d positions and %d tokens; want %d positions", s, n, len(wantedExpanded(e).Tokens), letters)
			}
			if p, ok := checkPositions(t, e); ok != (letters <= 20) || ok && p.First|p.Last >= 1<<letters || ok && p.First|p.Last < 1<<(letters-1) {
				t.Fatalf("BuildPositions(%v) = %v, %v", e, p, ok)
			}
		}
	}
	p, ok := impl.BuildPositions(exprOf(t, "a b . {3,3} {3,3} c a- . |"))
	if !ok || p.First != 1|1<<18 || p.Last != 1<<17|1<<19 || p.Follow[18] != 1<<19 || p.Follow[19] != 0 || p.Follow[1] != 1<<2 {
		t.Error(p, ok)
	}
}

// complete returns positions that all read the same letter and may come in any order.
func complete(positions int, letter int) impl.Positions {
	all := 1<<positions - 1
	return impl.Positions{Letters: slices.Repeat([]int{letter}, positions), First: all, Last: all, Follow: slices.Repeat([]int{all}, positions), Nullable: true}
}

func randomPositions(r *rand.Rand, positions int, letters int) impl.Positions {
	set := func() int { return r.Intn(1<<positions) & (r.Intn(1<<positions) | r.Intn(2)*(1<<positions-1)) }
	p := impl.Positions{First: set(), Last: set(), Nullable: r.Intn(2) == 0}
	for range positions {
		p.Letters = append(p.Letters, r.Intn(letters)*8/max(1, letters-1))
		p.Follow = append(p.Follow, set())
	}
	return p
}

func validPositions(t *testing.T) []impl.Positions {
	list := []impl.Positions{{}, {Nullable: true}, {Letters: []int{}, Follow: []int{}}, {Letters: []int{0}, Follow: []int{0}}, {Letters: []int{8}, Follow: []int{1}, First: 1, Last: 1}, {Letters: allLetters(), Follow: make([]int, 9)}}
	for _, positions := range []int{1, 2, 3, 19, 20} {
		list = append(list, complete(positions, 0), complete(positions, 8))
	}
	r := rand.New(rand.NewSource(110))
	for range 200 {
		list = append(list, randomPositions(r, r.Intn(21), 1+r.Intn(3)))
	}
	for _, e := range append(letterless(t), nullableOperands(t)...) {
		if x := wantedPart(wantedExpanded(e)); len(x.letters) <= 20 {
			list = append(list, x.positions())
		}
	}
	return list
}

// invalidPositions breaks valid positions in one way each.
func invalidPositions(t *testing.T) []impl.Positions {
	var list []impl.Positions
	add := func(p impl.Positions, change func(p *impl.Positions)) {
		p = clonePositions(p)
		change(&p)
		list = append(list, p)
	}
	for _, positions := range []int{0, 1, 2, 3, 9, 19, 20} {
		p := complete(positions, 2)
		add(p, func(p *impl.Positions) { p.Follow = append(p.Follow, 0) })
		add(p, func(p *impl.Positions) { p.Letters = append(p.Letters, 0) })
		for _, set := range setsBeyond(positions) {
			add(p, func(p *impl.Positions) { p.First = set })
			add(p, func(p *impl.Positions) { p.Last = set })
			for place := range positions {
				add(p, func(p *impl.Positions) { p.Follow[place] = set })
			}
		}
		for place := range positions {
			for _, letter := range noLetters {
				add(p, func(p *impl.Positions) { p.Letters[place] = letter })
			}
			add(p, func(p *impl.Positions) { p.Follow = p.Follow[:place] })
			add(p, func(p *impl.Positions) { p.Letters = p.Letters[:place] })
		}
	}
	for _, positions := range []int{21, 22, 62} {
		p := complete(positions, 2)
		list = append(list, p)
		add(p, func(p *impl.Positions) { p.First, p.Last, p.Follow = 1, 1, make([]int, positions) })
		add(p, func(p *impl.Positions) { p.First, p.Last, p.Follow = 1, 1, nil })
	}
	for _, positions := range []int{63, 64, 65, 100000} {
		list = append(list, impl.Positions{Letters: make([]int, positions), Follow: make([]int, positions), First: 1, Last: 1, Nullable: true})
	}
	return list
}

// setsBeyond returns numbers that are no sets of the numbers below the size.
func setsBeyond(size int) []int {
	return []int{1 << size, 1<<size | 1, 1<<(size+1) - 1, 1 << (size + 1), 1 << 21, 1 << 22, 1 << 32, 1<<32 | 1, 1 << 62, math.MaxInt, -1, -2, -1 << size, math.MinInt, math.MinInt | 1}
}

func TestIsValidPositions(t *testing.T) {
	for _, p := range validPositions(t) {
		if !impl.IsValidPositions(p) {
			t.Fatalf("IsValidPositions(%v) = false", p)
		}
	}
	for _, p := range invalidPositions(t) {
		if impl.IsValidPositions(p) {
			t.Fatalf("IsValidPositions(%v) = true", p)
		}
	}
}

// With positions that are not valid every function has a result of its own.
func TestPositionFunctionsInvalid(t *testing.T) {
	for _, p := range invalidPositions(t) {
		for _, set := range []int{0, 1, 2, 3, 4, 7, 1 << 20, 1<<21 - 1, 1 << 21, 1<<22 - 1, -1, math.MaxInt, math.MinInt} {
			if impl.AcceptsSet(p, set) {
				t.Fatalf("AcceptsSet(%v, %d) = true", p, set)
			}
			for _, letter := range []int{0, 2, 8, 9, -1} {
				checkAfter(t, p, set, letter, 0)
			}
		}
		for _, word := range [][]int{nil, {2}, {2, 2}, {0}, {9}, {-1}} {
			checkRuns(t, p, word, 0)
			checkPositionsMatch(t, p, word, false)
		}
		checkAmbiguous(t, p, nil, false)
		if impl.IsUnambiguous(p) {
			t.Fatalf("IsUnambiguous(%v) = true", p)
		}
	}
}

func checkAfter(t *testing.T, p impl.Positions, set int, letter int, want int) {
	t.Helper()
	if after := impl.PositionsAfter(p, set, letter); after != want {
		t.Fatalf("PositionsAfter(%v, %d, %d) = %d; want %d", p, set, letter, after, want)
	}
}

// comesAfter reports whether a run may go from the state to the position with the letter.
func comesAfter(p impl.Positions, state int, position int, letter int) bool {
	set := p.First
	if state > 0 {
		set = p.Follow[state-1]
	}
	return set>>position&1 == 1 && p.Letters[position] == letter
}

func isAccepting(p impl.Positions, state int) bool {
	return state == 0 && p.Nullable || state > 0 && p.Last>>(state-1)&1 == 1
}

func wantedAfter(p impl.Positions, set int, letter int) int {
	out := 0
	for state := range len(p.Letters) + 1 {
		for position := range p.Letters {
			if set>>state&1 == 1 && comesAfter(p, state, position, letter) {
				out |= 1 << (position + 1)
			}
		}
	}
	return out
}

func wantedAccepts(p impl.Positions, set int) bool {
	for state := range len(p.Letters) + 1 {
		if set>>state&1 == 1 && isAccepting(p, state) {
			return true
		}
	}
	return false
}

func TestPositionsAfter(t *testing.T) {
	p, _ := impl.BuildPositions(exprOf(t, "a b | * a . c ."))
	for _, c := range [][3]int{
		{0, 0, 0}, {1, 0, 2 | 8}, {1, 2, 4}, {1, 4, 0}, {1, 1, 0}, {2, 0, 2 | 8}, {2, 2, 4}, {4, 0, 2 | 8}, {4, 2, 4}, {8, 0, 0}, {8, 2, 0}, {8, 4, 16}, {2 | 8, 4, 16}, {2 | 8, 0, 2 | 8}, {2 | 8, 2, 4}, {16, 0, 0}, {16, 4, 0}, {31, 0, 2 | 8}, {31, 2, 4}, {31, 4, 16}, {31, 8, 0},
		// These are no state sets: there are four positions.
		{32, 0, 0}, {33, 0, 0}, {63, 0, 0}, {-1, 0, 0}, {-31, 0, 0}, {math.MinInt, 0, 0}, {math.MinInt | 1, 0, 0}, {math.MaxInt, 0, 0}, {1<<32 | 1, 0, 0},
	} {
		checkAfter(t, p, c[0], c[1], c[2])
	}
	for _, letter := range noLetters {
		for set := range 32 {
			checkAfter(t, p, set, letter, 0)
		}
	}
}

// stateSets returns the state sets of some positions, or some of them.
func stateSets(r *rand.Rand, positions int) []int {
	count := 1 << (positions + 1)
	sets := []int{0, 1, 2 % count, count / 2, count - 1}
	for i := range min(64, count) {
		if count > 64 {
			i = r.Intn(count)
		}
		sets = append(sets, i)
	}
	return sets
}

func TestStateSets(t *testing.T) {
	r := rand.New(rand.NewSource(1110))
	for _, p := range validPositions(t) {
		for _, set := range stateSets(r, len(p.Letters)) {
			for letter := range 9 {
				checkAfter(t, p, set, letter, wantedAfter(p, set, letter))
			}
			checkAfter(t, p, set, 9, 0)
			checkAfter(t, p, set, -1, 0)
			if want := wantedAccepts(p, set); impl.AcceptsSet(p, set) != want {
				t.Fatalf("AcceptsSet(%v, %d) = %v", p, set, !want)
			}
		}
		for _, set := range setsBeyond(len(p.Letters) + 1) {
			checkAfter(t, p, set, 0, 0)
			checkAfter(t, p, set, 8, 0)
			if impl.AcceptsSet(p, set) {
				t.Fatalf("AcceptsSet(%v, %d) = true", p, set)
			}
		}
	}
}

func TestAcceptsSet(t *testing.T) {
	for _, c := range []struct {
		e   string
		yes []int
		no  []int
	}{
		{"a b .", []int{4, 5, 6, 7}, []int{0, 1, 2, 3, 8, 12, -1, -4, math.MinInt, math.MaxInt}},
		{"a b . *", []int{1, 3, 4, 5, 6, 7}, []int{0, 2, 8, 9, 12, -1, -4}},
		{"a b |", []int{2, 3, 4, 5, 6, 7}, []int{0, 1, 8, 10}},
		{"()", []int{1}, []int{0, 2, 3, -1, math.MinInt, math.MaxInt}},
		{"!", nil, []int{0, 1, 2, 3, -1}},
		{"! *", []int{1}, []int{0, 2, 3}},
		{"! {2,3}", nil, []int{0, 1, 2, 3}},
		{"a ! .", nil, []int{0, 1, 2, 3, 4}},
	} {
		p, ok := impl.BuildPositions(exprOf(t, c.e))
		for _, set := range append(slices.Clone(c.yes), c.no...) {
			if want := slices.Contains(c.yes, set); !ok || impl.AcceptsSet(p, set) != want {
				t.Errorf("%s: AcceptsSet(%v, %d) = %v; want %v", c.e, p, set, !want, want)
			}
		}
	}
}

func checkPositionsMatch(t *testing.T, p impl.Positions, word []int, want bool) {
	t.Helper()
	if impl.PositionsMatch(p, word) != want {
		t.Fatalf("PositionsMatch(%v, %v) = %v; want %v", p, word, !want, want)
	}
}

func checkRuns(t *testing.T, p impl.Positions, word []int, want int) {
	t.Helper()
	if runs := impl.CountRuns(p, word); runs != want {
		t.Fatalf("CountRuns(%v, %v) = %d; want %d", p, word, runs, want)
	}
}

// runsFrom counts the ways in which a run can go on, one by one.
func runsFrom(p impl.Positions, state int, word []int) int {
	if len(word) == 0 {
		if isAccepting(p, state) {
			return 1
		}
		return 0
	}
	count := 0
	for position := range p.Letters {
		if comesAfter(p, state, position, word[0]) {
			count += runsFrom(p, position+1, word[1:])
		}
	}
	return count
}

func TestCountRuns(t *testing.T) {
	for _, c := range []struct {
		e    string
		word string
		want int
	}{
		{"a * a * .", "()", 1}, {"a * a * .", "a", 2}, {"a * a * .", "a a", 3}, {"a * a * .", "a a a a a a a a", 9}, {"a * a * . a * .", "a a", 6}, {"a * a * .", "b", 0}, {"a * a * .", "a b", 0},
		{"a a |", "a", 2}, {"a a |", "()", 0}, {"a a | *", "a a a", 8}, {"a a | *", "()", 1}, {"a a | a |", "a", 3}, {"a () |", "a", 1}, {"a * *", "a a", 1}, {"a {0,1} {2,2}", "a", 2}, {"a {0,1} {2,2}", "a a", 1}, {"a {0,1} {3,3}", "a", 3}, {"a {0,1} {3,3}", "a a", 3}, {"a {0,2}", "a", 1},
		{"a b . c .", "a b c", 1}, {"a b . c .", "a b", 0}, {"a b . c .", "a b c c", 0}, {"a b . a b . |", "a b", 2}, {"a b . a |", "a", 1}, {"a ! . a |", "a", 1}, {"a ! .", "a", 0}, {"! a .", "a", 0},
		{"()", "()", 1}, {"()", "a", 0}, {"!", "()", 0}, {"!", "a", 0}, {"! *", "()", 1}, {"() () |", "()", 1}, {"() {2,3}", "()", 1}, {"() {2,3}", "a", 0}, {"! {1,2}", "()", 0}, {"! {0,2}", "()", 1},
	} {
		p, ok := impl.BuildPositions(exprOf(t, c.e))
		if !ok {
			t.Fatal(c.e)
		}
		checkRuns(t, p, wordFrom(t, c.word), c.want)
		checkPositionsMatch(t, p, wordFrom(t, c.word), c.want > 0)
	}
}

func TestPositionWordsInvalid(t *testing.T) {
	for _, p := range []impl.Positions{complete(1, 0), complete(3, 0), complete(20, 0)} {
		checkPositionsMatch(t, p, slices.Repeat([]int{0}, 8), true)
		for _, letters := range []int{9, 10, 64, 100000} {
			checkPositionsMatch(t, p, slices.Repeat([]int{0}, letters), false)
			checkRuns(t, p, slices.Repeat([]int{0}, letters), 0)
		}
		for _, letter := range noLetters {
			for _, word := range [][]int{{letter}, {0, letter}, {letter, 0}, {0, 0, 0, 0, 0, 0, 0, letter}} {
				checkPositionsMatch(t, p, word, false)
				checkRuns(t, p, word, 0)
			}
		}
	}
}

// withMostRuns returns positions that have a million runs for six letters a, one run less if less is true, and one run more for each of more.
func withMostRuns(less bool, more int) impl.Positions {
	p := complete(10, 0)
	if less {
		// A run may wait at the position 10 for some of the letters before it enters one of nine others: that gives 9 + 90 + 900 runs and so on.
		p.Letters, p.Follow = append(p.Letters, 0), append(p.Follow, 1<<11-2)
		p.First = 1<<11 - 2
	}
	for range more {
		place := len(p.Letters)
		p.Letters, p.Follow = append(p.Letters, 0), append(p.Follow, 1<<place)
		p.First |= 1 << place
		p.Last |= 1 << place
	}
	return p
}

func TestMostRuns(t *testing.T) {
	six := slices.Repeat([]int{0}, 6)
	for _, c := range []struct {
		less  bool
		more  int
		runs  int
		fewer int
	}{{false, 0, 1000000, 100000}, {false, 1, 1000001, 100001}, {false, 3, 1000003, 100003}, {true, 0, 999999, 99999}, {true, 1, 1000000, 100000}, {true, 2, 1000001, 100001}} {
		p := withMostRuns(c.less, c.more)
		if runs := runsFrom(p, 0, six); runs != c.runs {
			t.Fatalf("%d runs; want %d", runs, c.runs)
		}
		checkRuns(t, p, six, min(1000000, c.runs))
		checkRuns(t, p, six[:5], c.fewer)
		checkRuns(t, p, slices.Repeat([]int{0}, 7), 1000000)
		checkRuns(t, p, slices.Repeat([]int{0}, 8), 1000000)
	}
}

// Runs that do not end in an accepted state do not count, however many there are.
func TestMostRunsNotAccepted(t *testing.T) {
	eight := slices.Repeat([]int{0}, 8)
	p := complete(20, 0)
	checkRuns(t, p, eight[:4], 160000)
	checkRuns(t, p, eight[:5], 1000000)
	checkRuns(t, p, eight, 1000000)
	p.Last = 1 << 19
	checkRuns(t, p, eight[:5], 160000)
	checkRuns(t, p, eight, 1000000)
	p.Last = 0
	checkRuns(t, p, eight, 0)
	checkPositionsMatch(t, p, eight, false)
	// Only the position 19, which reads another letter, is accepted, and only the position 18 comes before it.
	p.Last, p.Letters[19] = 1<<19, 1
	for i := range 18 {
		p.Follow[i] &^= 1 << 19
	}
	p.Follow[19] = 0
	checkRuns(t, p, append(slices.Clone(eight[:5]), 1), 19*19*19*19)
	checkRuns(t, p, append(slices.Clone(eight[:6]), 1), 1000000)
	checkRuns(t, p, append(slices.Clone(eight[:6]), 1, 0), 0)
	p.First = 1 << 18
	checkRuns(t, p, append(slices.Clone(eight[:6]), 1), 19*19*19*19)
	checkRuns(t, p, append(slices.Clone(eight[:1]), 1), 1)
}

func TestMostRunsOfExpressions(t *testing.T) {
	ten := "a" + strings.Repeat(" a |", 9) + " *"
	for _, c := range []struct {
		e       string
		letters int
		want    int
	}{{ten, 5, 100000}, {ten, 6, 1000000}, {ten, 7, 1000000}, {ten, 8, 1000000}, {ten + " a {3,3} {2,2} |", 5, 100000}, {ten + " a {3,3} {2,2} |", 6, 1000000}, {"a" + strings.Repeat(" a |", 8) + " *", 6, 531441}, {"a" + strings.Repeat(" a |", 8) + " * b .", 6, 0}} {
		p, ok := impl.BuildPositions(exprOf(t, c.e))
		if !ok {
			t.Fatal(c.e)
		}
		checkRuns(t, p, slices.Repeat([]int{0}, c.letters), c.want)
		if c.want == 0 {
			checkRuns(t, p, append(slices.Repeat([]int{0}, c.letters), 2), 531441)
		}
	}
}

// A word has a run exactly if it belongs to the language.
func TestMatchesExactlyIfRun(t *testing.T) {
	matched := 0
	check := func(e impl.Expr, p impl.Positions, word []int) {
		if len(word) > 8 {
			return
		}
		want := impl.MatchesWord(e, word)
		checkPositionsMatch(t, p, word, want)
		if runs := impl.CountRuns(p, word); (runs > 0) != want {
			t.Fatalf("%v has %d runs for %v, but MatchesWord = %v", e, runs, word, want)
		}
		if want {
			matched++
		}
	}
	r := rand.New(rand.NewSource(11011))
	eachPositionsExpr(t, func(e impl.Expr) {
		p, ok := impl.BuildPositions(e)
		if !ok {
			return
		}
		letters := append(impl.Alphabet(e), 2)
		eachList(letters[:min(3, len(letters))], 3, func(word []int) { check(e, p, word) })
		for _, word := range wordsNear(r, randomWordOf(r, e)) {
			check(e, p, word)
		}
	})
	if matched < 20000 {
		t.Errorf("only %d words match", matched)
	}
}

// The positions match the words of the language that is computed without the program, and those whose derivative is nullable.
func TestPositionsMatchLanguage(t *testing.T) {
	check := func(e impl.Expr) {
		p, ok := impl.BuildPositions(e)
		if !ok {
			return
		}
		words := wordsOf(e, 3)
		eachList([]int{0, 2, 3, 7}, 3, func(word []int) {
			checkPositionsMatch(t, p, word, words[keyOf(word)])
			if d, ok := impl.DerivativeWord(e, word); ok {
				checkPositionsMatch(t, p, word, impl.Nullable(d))
			}
		})
	}
	eachListedExpr(t, check)
	r := rand.New(rand.NewSource(11101))
	for range 500 {
		check(randomExpr(r, 1+r.Intn(24)))
	}
}

// If every position has a letter of its own, a word has one run at most; so the runs for a word are the words of such letters that read it.
func TestRunsAreWordsOfPositions(t *testing.T) {
	several := 0
	check := func(e impl.Expr) {
		p, ok := impl.BuildPositions(e)
		if !ok || len(p.Letters) > 9 {
			return
		}
		marked, position := cloneExpr(wantedExpanded(e)), 0
		for i, token := range marked.Tokens {
			if token.Kind == 3 {
				marked.Tokens[i].Letter = position
				position++
			}
		}
		runs := map[string]int{}
		for word := range wordsOf(marked, 4) {
			read := []byte(word)
			for i, place := range read {
				read[i] = byte(p.Letters[place])
			}
			runs[string(read)]++
		}
		letters := impl.Alphabet(e)
		eachList(letters[:min(2, len(letters))], 4, func(word []int) {
			checkRuns(t, p, word, runs[keyOf(word)])
			if runs[keyOf(word)] > 1 {
				several++
			}
		})
	}
	eachListedExpr(t, check)
	r := rand.New(rand.NewSource(10111))
	for range 1000 {
		check(randomExpr(r, 1+r.Intn(16)))
	}
	if several < 1000 {
		t.Errorf("only %d words have more than one run", several)
	}
}

// Positions need not be those of an expression.
func TestRunsOfAnyPositions(t *testing.T) {
	r := rand.New(rand.NewSource(10010))
	for range 1000 {
		p := randomPositions(r, r.Intn(7), 1+r.Intn(3))
		eachList([]int{0, 4, 8}, 4, func(word []int) {
			want := runsFrom(p, 0, word)
			checkRuns(t, p, word, want)
			checkPositionsMatch(t, p, word, want > 0)
		})
	}
}

func checkAmbiguous(t *testing.T, p impl.Positions, want []int, wantOk bool) {
	t.Helper()
	word, ok := impl.AmbiguousWord(p)
	if ok != wantOk || !slices.Equal(word, want) || !ok && word != nil {
		t.Fatalf("AmbiguousWord(%v) = %v, %v; want %v, %v", p, word, ok, want, wantOk)
	}
	if impl.IsUnambiguous(p) != (impl.IsValidPositions(p) && !wantOk) {
		t.Fatalf("IsUnambiguous(%v) = %v", p, wantOk)
	}
}

func TestAmbiguousWord(t *testing.T) {
	for _, c := range [][2]string{
		{"a * a * .", "a"}, {"a a |", "a"}, {"a a | *", "a"}, {"2 2 |", "2"}, {"b b | a a | |", "a"}, {"b b | a a . a a . | |", "b"}, {"a b . a b . |", "a b"}, {"a * b * . *", ""}, {"a * b * | *", ""}, {"a a . a |", ""}, {"a a . a | *", "a a"}, {"a {0,1} {2,2}", "a"}, {"a {0,1} {1,1}", ""}, {"a {1,2} *", "a a"}, {"a {2,3} *", "a a a a a"}, {"a {3,3} a {2,2} | *", "a a a a a"},
		{"a * b . a * .", ""}, {"a * b a * . .", ""}, {"a b | * a . a b | * .", "a a"}, {"a b | * b . a b | * .", "b b"}, {"b * a * . b * . b .", "b b"}, {"a b * . a . a b a . * . |", "a b a"}, {"a b . * a . a b a . * . |", "a"}, {"c a . c b . | c a . |", "c a"}, {"c b . a . b b . c . | c b . a . | b b . c . |", "b b c"},
		// Two runs count only if both are accepted, and the lesser word counts even if it is found in another way.
		{"a ! . a |", ""}, {"a b . a c . |", ""}, {"a b . a c . | a * |", ""}, {"a b . a c . | a * b . |", "a b"}, {"a b . a ! . | a b . |", "a b"}, {"a a . b . a a . c . |", ""}, {"a c | b . a b | c . |", ""}, {"a c | b | * a b | . b .", ""}, {"a b | a b | . a b | .", ""}, {"c a | * a c | * .", "a"}, {"b a | a . a b | a . |", "a a"},
		{"a a . a a . |", "a a"}, {"a a a . . a a a . . |", "a a a"},
		// The edge case: no letters, hence no ambiguous word.
		{"()", ""}, {"!", ""}, {"! *", ""}, {"() *", ""}, {"() () |", ""}, {"() {2,3}", ""}, {"! {0,2}", ""}, {"! {1,3}", ""},
		{"a", ""}, {"a *", ""}, {"a * *", ""}, {"a () |", ""}, {"a b |", ""}, {"a b | *", ""}, {"a b . *", ""}, {"a {0,3}", ""}, {"a {2,2} *", ""}, {"a a- | b | b- | c | c- | 0 | 1 | 2 | *", ""}, {"a {3,3} {3,3} {2,2} a {2,2} .", ""},
	} {
		p, ok := impl.BuildPositions(exprOf(t, c[0]))
		if !ok {
			t.Fatal(c[0])
		}
		want, found := wantedAmbiguous(p)
		if !slices.Equal(want, wordFrom(t, c[1])) {
			t.Errorf("%q is ambiguous for %v, %v; want %q", c[0], want, found, c[1])
		}
		checkAmbiguous(t, p, want, found)
	}
}

// cappedRuns counts runs by their last state, but more than two as two.
type cappedRuns [21]byte

func (c cappedRuns) after(p impl.Positions, letter int) cappedRuns {
	var next cappedRuns
	for state, count := range c {
		for position := range p.Letters {
			if count > 0 && comesAfter(p, state, position, letter) {
				next[position+1] = min(2, next[position+1]+count)
			}
		}
	}
	return next
}

func (c cappedRuns) accepted(p impl.Positions) int {
	runs := 0
	for state, count := range c {
		if count > 0 && isAccepting(p, state) {
			runs += int(count)
		}
	}
	return runs
}

// wantedAmbiguous tries all words in ascending order; a word that leaves the same numbers of runs as a lesser one need not be continued.
func wantedAmbiguous(p impl.Positions) ([]int, bool) {
	type reached struct {
		word []int
		runs cappedRuns
	}
	start := cappedRuns{0: 1}
	seen := map[cappedRuns]bool{start: true}
	letters := slices.Compact(slices.Sorted(slices.Values(p.Letters)))
	for queue := []reached{{runs: start}}; len(queue) > 0; queue = queue[1:] {
		for _, letter := range letters {
			next := queue[0].runs.after(p, letter)
			if seen[next] {
				continue
			}
			seen[next] = true
			word := append(slices.Clone(queue[0].word), letter)
			if next.accepted(p) > 1 {
				return word, true
			}
			queue = append(queue, reached{word, next})
		}
	}
	return nil, false
}

// checkAmbiguity checks that an ambiguous word is the least one and has two runs, and that without one no word has more than one run.
func checkAmbiguity(t *testing.T, p impl.Positions, length int) bool {
	t.Helper()
	want, found := wantedAmbiguous(p)
	checkAmbiguous(t, p, want, found)
	if found && len(want) <= 8 && impl.CountRuns(p, want) < 2 {
		t.Fatalf("the word %v is ambiguous for %v, but has %d runs", want, p, impl.CountRuns(p, want))
	}
	letters := slices.Compact(slices.Sorted(slices.Values(p.Letters)))
	eachList(letters[:min(3, len(letters))], length, func(word []int) {
		if (!found || impl.CompareWords(word, want) < 0) && impl.CountRuns(p, word) > 1 {
			t.Fatalf("%v has %d runs for %v, but AmbiguousWord = %v, %v", p, impl.CountRuns(p, word), word, want, found)
		}
	})
	return found
}

func TestAmbiguityOfAnyPositions(t *testing.T) {
	r := rand.New(rand.NewSource(12))
	found, long := 0, 0
	for range 4000 {
		p := randomPositions(r, r.Intn(8), 1+r.Intn(3))
		if checkAmbiguity(t, p, 4) {
			found++
		}
		if word, _ := impl.AmbiguousWord(p); len(word) > 3 {
			long++
		}
	}
	if found < 500 || found > 3500 || long < 20 {
		t.Errorf("%d of 4000 positions are ambiguous, %d of them only for longer words", found, long)
	}
}

func TestAmbiguityOfExpressions(t *testing.T) {
	found, none := 0, 0
	check := func(e impl.Expr) {
		// The number of counts that have to be tried grows fast with the number of positions.
		if p, ok := impl.BuildPositions(e); ok && len(p.Letters) <= 10 {
			if checkAmbiguity(t, p, 3) {
				found++
			} else {
				none++
			}
		}
	}
	eachListedExpr(t, check)
	eachShortExpr(check)
	r := rand.New(rand.NewSource(121))
	for range 1000 {
		check(randomExpr(r, 1+r.Intn(20)))
	}
	if found < 500 || none < 500 {
		t.Errorf("%d expressions are ambiguous and %d are not", found, none)
	}
}

// cycles returns positions with a cycle of each of these lengths, in which all positions read the letter a.
func cycles(lengths ...int) impl.Positions {
	p := impl.Positions{}
	for _, length := range lengths {
		first := len(p.Letters)
		for i := range length {
			p.Letters = append(p.Letters, 0)
			p.Follow = append(p.Follow, 1<<(first+(i+1)%length))
		}
		p.First |= 1 << first
		p.Last |= 1 << (first + length - 1)
	}
	return p
}

// The word may have any number of letters, also more than MaxWord.
func TestLongAmbiguousWords(t *testing.T) {
	for _, c := range []struct {
		e       string
		letters int
	}{
		{"a {2,2} * a {3,3} * |", 6}, {"a {2,2} {2,2} * a {3,3} * |", 12}, {"a {3,3} {2,2} a . * a {2,2} {2,2} * |", 28}, {"a {3,3} {3,3} * a {3,3} {3,3} a {2,2} . * |", 99}, {"a {3,3} {3,3} a . * a {3,3} {2,2} a . {1,1} * |", 70},
		{"a {2,2} {2,2} {2,2} a . a {3,3} {3,3} |", 9}, {"a {3,3} {3,3} b . a {3,3} {3,3} b . |", 10},
	} {
		p, ok := impl.BuildPositions(exprOf(t, c.e))
		if !ok {
			t.Fatal(c.e)
		}
		want, found := wantedAmbiguous(p)
		if !found || len(want) != c.letters {
			t.Errorf("%q is ambiguous for %d letters, %v; want %d", c.e, len(want), found, c.letters)
		}
		checkAmbiguous(t, p, want, true)
	}
	for _, lengths := range [][]int{{9, 11}, {7, 13}, {3, 17}, {10, 10}, {8, 12}, {4, 6, 9}, {5, 7, 8}, {20}, {1, 19}} {
		p := cycles(lengths...)
		want, found := wantedAmbiguous(p)
		checkAmbiguous(t, p, want, found)
		if found && !slices.Equal(want, make([]int, len(want))) || len(lengths) == 2 && len(want) != lengths[0]*lengths[1]/divisor(lengths[0], lengths[1]) {
			t.Errorf("%v: %d letters", lengths, len(want))
		}
	}
}

func divisor(a int, b int) int {
	if b == 0 {
		return a
	}
	return divisor(b, a%b)
}

// All of the positions are used, and there is no word, or it is found at once.
func TestAmbiguityOfMostPositions(t *testing.T) {
	checkAmbiguous(t, complete(20, 8), []int{8}, true)
	checkAmbiguous(t, complete(1, 8), nil, false)
	p := complete(20, 0)
	p.Last = 1 << 19
	checkAmbiguous(t, p, []int{0, 0}, true)
	p.Last = 0
	checkAmbiguous(t, p, nil, false)
	p.First, p.Last = 0, 1<<20-1
	checkAmbiguous(t, p, nil, false)
	p.First, p.Last, p.Follow = 1<<20-1, 1<<20-1, make([]int, 20)
	checkAmbiguous(t, p, []int{0}, true)
	p.Letters = slices.Concat(allLetters(), allLetters(), []int{8, 8})
	checkAmbiguous(t, p, []int{0}, true)
	p.First = 1<<8 | 1<<17 | 1<<1 | 1<<2
	checkAmbiguous(t, p, []int{8}, true)
	p.First = 1<<9 - 1
	checkAmbiguous(t, p, nil, false)
	// The words to the same states come in an order that is not that of the states.
	p = impl.Positions{Letters: []int{1, 0, 3, 3, 2, 2}, First: 3, Last: 60, Follow: []int{12, 48, 0, 0, 0, 0}}
	checkAmbiguous(t, p, []int{0, 2}, true)
	p = impl.Positions{Letters: []int{0, 0, 3, 3, 2, 2}, First: 3, Last: 60, Follow: []int{12, 48, 0, 0, 0, 0}}
	checkAmbiguous(t, p, []int{0, 2}, true)
}

func roomyPositions(p impl.Positions) (impl.Positions, impl.Positions) {
	memory := p
	p.Letters, memory.Letters = roomy(p.Letters...)
	p.Follow, memory.Follow = roomy(p.Follow...)
	return p, memory
}

func TestPositionArgumentsStay(t *testing.T) {
	for _, original := range append(someExprs(t), noExprs(t)...) {
		e, memory := roomyExpr(original)
		before := slices.Clone(memory)
		x, _ := impl.ExpandExpr(e)
		scribbleTokens(x.Tokens)
		p, _ := impl.BuildPositions(e)
		scribbleWords([][]int{p.Letters, p.Follow})
		if !slices.Equal(memory, before) {
			t.Fatalf("the argument %v has changed", original)
		}
	}
	for _, original := range append(validPositions(t), invalidPositions(t)...) {
		p, memory := roomyPositions(original)
		before := clonePositions(memory)
		for _, list := range languageWords() {
			word, wordMemory := roomy(list...)
			wordBefore := slices.Clone(wordMemory)
			impl.PositionsMatch(p, word)
			impl.CountRuns(p, word)
			if !slices.Equal(wordMemory, wordBefore) {
				t.Fatalf("the argument %v has changed", list)
			}
		}
		impl.IsValidPositions(p)
		impl.PositionsAfter(p, 1, 0)
		impl.AcceptsSet(p, 1)
		impl.IsUnambiguous(p)
		word, _ := impl.AmbiguousWord(p)
		scribbleWords([][]int{word})
		if !samePositions(memory, before) {
			t.Fatalf("the argument %v has changed", original)
		}
	}
}

// A result stays as it is when the arguments, the results of other calls, or its other lists are overwritten.
func TestPositionResultsAreNewMemory(t *testing.T) {
	for _, s := range append([]string{"a {1,2}", "a {2,2} {2,2} {2,2} {2,2} b {2,2} {2,2} |"}, goodExprs...) {
		e, memory := roomyExpr(exprOf(t, s))
		want, _ := checkPositions(t, e)
		x, _ := impl.ExpandExpr(e)
		again, _ := impl.ExpandExpr(e)
		p, _ := impl.BuildPositions(e)
		other, _ := impl.BuildPositions(e)
		expansion := cloneExpr(wantedExpanded(e))
		scribbleTokens(memory)
		scribbleTokens(again.Tokens)
		scribbleWords([][]int{p.Letters, other.Follow})
		if !sameExpr(x, expansion) || !slices.Equal(p.Follow, want.Follow) || !slices.Equal(other.Letters, want.Letters) {
			t.Fatalf("a result for %q shares memory", s)
		}
		checkBuiltPositions(t, exprOf(t, s), want, true)
	}
	for _, original := range []impl.Positions{complete(2, 5), cycles(9, 11), cycles(10, 10)} {
		p, memory := roomyPositions(original)
		word, _ := impl.AmbiguousWord(p)
		want := slices.Clone(word)
		again, _ := impl.AmbiguousWord(p)
		scribbleWords([][]int{again, memory.Letters, memory.Follow})
		if !slices.Equal(word, want) {
			t.Fatalf("the ambiguous word %v shares memory", want)
		}
		checkAmbiguous(t, original, want, true)
	}
}
