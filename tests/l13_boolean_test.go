package tests

import (
	"math/rand"
	"slices"
	"testing"

	"loop.example/g01922/impl"
)

// operation is one of the functions that make one automaton of two, and which words it accepts.
type operation struct {
	name    string
	call    func(a impl.Automaton, b impl.Automaton) (impl.Automaton, bool)
	accepts func(inA bool, inB bool) bool
}

// pairOperations are intersection, union and difference, in this order.
func pairOperations() []operation {
	return []operation{
		{"IntersectAutomata", impl.IntersectAutomata, func(inA bool, inB bool) bool { return inA && inB }},
		{"UniteAutomata", impl.UniteAutomata, func(inA bool, inB bool) bool { return inA || inB }},
		{"SubtractAutomata", impl.SubtractAutomata, func(inA bool, inB bool) bool { return inA && !inB }},
	}
}

// operations has also the complement, which does not look at the second automaton.
func operations() []operation {
	complement := func(a impl.Automaton, b impl.Automaton) (impl.Automaton, bool) { return impl.ComplementAutomaton(a) }
	return append(pairOperations(), operation{"ComplementAutomaton", complement, func(inA bool, inB bool) bool { return !inA }})
}

func checkOperation(t *testing.T, o operation, a impl.Automaton, b impl.Automaton, want impl.Automaton, wantOk bool) {
	t.Helper()
	if c, ok := o.call(a, b); ok != wantOk || !sameAutomaton(c, want) {
		t.Fatalf("%s(%v, %v) = %v, %v; want %v, %v", o.name, a, b, c, ok, want, wantOk)
	}
}

func checkComplement(t *testing.T, a impl.Automaton, want impl.Automaton, wantOk bool) {
	t.Helper()
	checkOperation(t, operations()[3], a, impl.Automaton{}, want, wantOk)
}

// wantedPairs returns an automaton whose states are those pairs of states, or of -1, to which words lead.
func wantedPairs(a impl.Automaton, b impl.Automaton, accepts func(inA bool, inB bool) bool) impl.Automaton {
	out := impl.Automaton{}
	pairs := [][2]int{{a.Start, b.Start}}
	for i := 0; i < len(pairs); i++ {
		s, u := pairs[i][0], pairs[i][1]
		out = withState(out, accepts(acceptedFrom(a, s, nil), acceptedFrom(b, u, nil)), emptyRow())
		for letter := range 9 {
			next := [2]int{wantedRun(a, s, []int{letter}), wantedRun(b, u, []int{letter})}
			place := slices.Index(pairs, next)
			if place < 0 {
				place = len(pairs)
				pairs = append(pairs, next)
			}
			out.Next[i][letter] = place
		}
	}
	return out
}

func wantedOperation(o operation, a impl.Automaton, b impl.Automaton) (impl.Automaton, bool) {
	want := wantedMinimal(wantedPairs(a, b, o.accepts))
	if len(want.Accept) > 12 {
		return impl.Automaton{}, false
	}
	return want, true
}

// checkOperations checks the four operations with any valid automata, and that the results accept the words that they should; it returns how many of them there are.
func checkOperations(t *testing.T, a impl.Automaton, b impl.Automaton, letters []int, length int) int {
	t.Helper()
	count := 0
	for _, o := range operations() {
		want, ok := wantedOperation(o, a, b)
		checkOperation(t, o, a, b, want, ok)
		if !ok {
			continue
		}
		count++
		checkIsMinimal(t, want, true)
		eachList(letters, length, func(word []int) {
			if impl.AcceptsWord(want, word) != o.accepts(impl.AcceptsWord(a, word), impl.AcceptsWord(b, word)) {
				t.Fatalf("%s(%v, %v) = %v, which is wrong about %v", o.name, a, b, want, word)
			}
		})
	}
	return count
}

func checkEmpty(t *testing.T, a impl.Automaton, want bool) {
	t.Helper()
	if impl.IsEmptyAutomaton(a) != want {
		t.Fatalf("IsEmptyAutomaton(%v) = %v", a, !want)
	}
}

func checkShortest(t *testing.T, a impl.Automaton, want []int, wantOk bool) {
	t.Helper()
	if word, ok := impl.ShortestAccepted(a); ok != wantOk || !slices.Equal(word, want) {
		t.Fatalf("ShortestAccepted(%v) = %v, %v; want %v, %v", a, word, ok, want, wantOk)
	}
}

func checkMissing(t *testing.T, a impl.Automaton, b impl.Automaton, want []int, wantOk bool) {
	t.Helper()
	if word, ok := impl.MissingWord(a, b); ok != wantOk || !slices.Equal(word, want) {
		t.Fatalf("MissingWord(%v, %v) = %v, %v; want %v, %v", a, b, word, ok, want, wantOk)
	}
}

func checkIncludes(t *testing.T, a impl.Automaton, b impl.Automaton, want bool) {
	t.Helper()
	if impl.IncludesLanguage(a, b) != want {
		t.Fatalf("IncludesLanguage(%v, %v) = %v", a, b, !want)
	}
}

func checkEquivalent(t *testing.T, a impl.Automaton, b impl.Automaton, want bool) {
	t.Helper()
	if impl.AreEquivalent(a, b) != want || impl.AreEquivalent(b, a) != want {
		t.Fatalf("AreEquivalent(%v, %v) = %v, and with the arguments exchanged %v; want %v", a, b, impl.AreEquivalent(a, b), impl.AreEquivalent(b, a), want)
	}
}

func checkFinite(t *testing.T, a impl.Automaton, want bool) {
	t.Helper()
	if impl.IsFiniteLanguage(a) != want {
		t.Fatalf("IsFiniteLanguage(%v) = %v", a, !want)
	}
}

// With an automaton that is not valid every function has a result of its own, whatever the other automaton is.
func TestBooleanInvalid(t *testing.T) {
	check := func(a impl.Automaton, b impl.Automaton) {
		for _, o := range pairOperations() {
			checkOperation(t, o, a, b, impl.Automaton{}, false)
		}
		checkMissing(t, a, b, nil, false)
		checkIncludes(t, a, b, false)
		checkEquivalent(t, a, b, false)
	}
	valid := []impl.Automaton{withStates(1), full(1), full(12), ring(2, 0), automatonOf(t, "start 1; 0; 1* a>1")}
	list := invalidAutomata()
	for i, bad := range list {
		checkComplement(t, bad, impl.Automaton{}, false)
		checkEmpty(t, bad, false)
		checkShortest(t, bad, nil, false)
		checkFinite(t, bad, false)
		for _, good := range valid {
			check(bad, good)
			check(good, bad)
		}
		check(bad, bad)
		check(bad, list[(i+1)%len(list)])
		check(list[(i+100)%len(list)], bad)
	}
}

// A state too many is not valid, even where the result would have few states.
func TestBooleanOfTooManyStates(t *testing.T) {
	for _, a := range []impl.Automaton{withStates(13), full(13), ring(13, 0)} {
		checkComplement(t, a, impl.Automaton{}, false)
		checkEmpty(t, a, false)
		checkShortest(t, a, nil, false)
		checkFinite(t, a, false)
		for _, o := range pairOperations() {
			for _, b := range []impl.Automaton{withStates(1), full(1), a} {
				checkOperation(t, o, a, b, impl.Automaton{}, false)
				checkOperation(t, o, b, a, impl.Automaton{}, false)
			}
		}
	}
}

// to returns a row in which all letters lead to the same state.
func to(state int) []int {
	return slices.Repeat([]int{state}, 9)
}

// withRows returns an automaton with these rows, of which the last one is of an accepting state.
func withRows(rows ...[]int) impl.Automaton {
	a := impl.Automaton{Next: rows, Accept: make([]bool, len(rows))}
	a.Accept[len(rows)-1] = true
	return a
}

// rowOf returns a row in which every letter but one leads to the same state.
func rowOf(letter int, next int, others int) []int {
	row := to(others)
	row[letter] = next
	return row
}

// The edge case: whatever the automaton looks like, the complement of the empty language has all words.
func TestComplementOfEmptyLanguage(t *testing.T) {
	all := full(1)
	for _, s := range []string{
		// A single state.
		"start 0; 0", "start 0; 0 a>0", "start 0; 0 2>0 a->0", "start 0; 0 a>0 a->0 b>0 b->0 c>0 c->0 0>0 1>0 2>0",
		// More states, of which none accepts.
		"start 0; 0; 1", "start 1; 0; 1", "start 0; 0 a>1; 1", "start 1; 0 a>1; 1 b>0", "start 0; 0 a>1; 1 b>2; 2 c>0", "start 2; 0 a>2; 1 b>2; 2 a>0 2>1", "start 11; 0; 1; 2; 3; 4; 5; 6; 7; 8; 9; 10; 11 a>10",
		// Accepting states that are not reached.
		"start 0; 0; 1*", "start 1; 0*; 1", "start 0; 0 a>0; 1* a>1", "start 1; 0* a>1 b>0; 1 c>1", "start 2; 0 a>1; 1* a>2; 2 a>2", "start 0; 0 a>1; 1 a>0; 2 a>3; 3* a>0", "start 1; 0* a>0; 1 a>2; 2 a>1; 3* b>2",
	} {
		a := automatonOf(t, s)
		checkComplement(t, a, all, true)
		checkEmpty(t, a, true)
	}
	for states := 1; states <= 12; states++ {
		checkComplement(t, withStates(states), all, true)
		for _, a := range []impl.Automaton{full(states), ring(states, 4)} {
			clear(a.Accept)
			checkComplement(t, a, all, true)
		}
	}
	// A start from which the ring is not reached.
	for states := 1; states < 12; states++ {
		for _, row := range [][]int{emptyRow(), to(states), rowOf(4, states, -1)} {
			a := withState(ring(states, 4), false, row)
			a.Start = states
			checkComplement(t, a, all, true)
		}
	}
}

func TestComplement(t *testing.T) {
	for _, c := range []struct {
		a    string
		want impl.Automaton
	}{
		// All words, by a single state and by more.
		{"start 0; 0* a>0 a->0 b>0 b->0 c>0 c->0 0>0 1>0 2>0", withStates(1)}, {"start 1; 0* a>1 a->0 b>1 b->0 c>0 c->0 0>0 1>0 2>1; 1* a>0 a->0 b>1 b->0 c>1 c->0 0>0 1>1 2>0", withStates(1)},
		// The empty word, and words of one letter.
		{"start 0; 0*", withRows(to(1), to(1))}, {"start 0; 0* a>1; 1", withRows(to(1), to(1))}, {"start 0; 0* a>1 b>1; 1 a>1", withRows(to(1), to(1))},
		{"start 0; 0 a>1; 1*", changed(withRows(rowOf(0, 1, 2), to(2), to(2)), func(a *impl.Automaton) { a.Accept[0] = true })},
		// The missing transitions of one letter only, and of all but one.
		{"start 0; 0* a->0 b>0 b->0 c>0 c->0 0>0 1>0 2>0", withRows(rowOf(0, 1, 0), to(1))}, {"start 0; 0* a>0 a->0 b>0 b->0 c>0 c->0 0>0 1>0", withRows(rowOf(8, 1, 0), to(1))}, {"start 0; 0* a>0", withRows(rowOf(0, 0, 1), to(1))}, {"start 0; 0* 2>0", withRows(rowOf(8, 0, 1), to(1))},
		{"start 0; 0 a>1 a->0 b>0 b->0 c>0 c->0 0>0 1>0 2>0; 1* a>1 a->1 b>1 b->1 c>1 c->1 0>1 1>1 2>1", withRows(rowOf(0, -1, 0))},
	} {
		a := automatonOf(t, c.a)
		checkComplement(t, a, c.want, true)
		checkComplement(t, c.want, wantedMinimal(a), true)
	}
	for states := 1; states <= 12; states++ {
		checkComplement(t, full(states), withStates(1), true)
	}
}

// The complement of the complement is the minimal automaton of the first one.
func TestComplementOfComplement(t *testing.T) {
	count := 0
	check := func(a impl.Automaton) {
		c, ok := impl.ComplementAutomaton(a)
		if !ok {
			return
		}
		count++
		checkComplement(t, c, wantedMinimal(a), true)
		checkEquivalent(t, a, c, false)
		for i, want := range []impl.Automaton{withStates(1), full(1)} {
			checkOperation(t, pairOperations()[i], a, c, want, true)
		}
	}
	eachSmallAutomaton(check)
	for _, a := range validAutomata(t) {
		check(a)
	}
	if count < 2500 {
		t.Errorf("only %d automata have a complement", count)
	}
}

// Each case has the intersection, the union, the first without the second, and the second without the first.
var combinations = [][6]string{
	// Equal languages, the same automaton among them, and automata that are not minimal or have useless states.
	{"start 0; 0 a>1; 1 b>2; 2*", "start 0; 0 a>1; 1 b>2; 2*", "start 0; 0 a>1; 1 b>2; 2*", "start 0; 0 a>1; 1 b>2; 2*", "start 0; 0", "start 0; 0"},
	{"start 0; 0* a>0", "start 0; 0* a>0", "start 0; 0* a>0", "start 0; 0* a>0", "start 0; 0", "start 0; 0"},
	{"start 0; 0* a>0", "start 1; 0; 1* a>2 b>0; 2* a>1 2>3; 3 a>3; 4* a>1", "start 0; 0* a>0", "start 0; 0* a>0", "start 0; 0", "start 0; 0"},
	{"start 0; 0 a>1 b>2; 1*; 2*", "start 3; 0*; 1; 2* a>1; 3 b>0 a>2 c>1", "start 0; 0 a>1 b>1; 1*", "start 0; 0 a>1 b>1; 1*", "start 0; 0", "start 0; 0"},
	// The empty language, in several forms.
	{"start 0; 0", "start 0; 0", "start 0; 0", "start 0; 0", "start 0; 0", "start 0; 0"},
	{"start 1; 0*; 1 a>1", "start 0; 0 a>1; 1 b>0; 2*", "start 0; 0", "start 0; 0", "start 0; 0", "start 0; 0"},
	{"start 0; 0", "start 0; 0 a>1; 1 b>2; 2*", "start 0; 0", "start 0; 0 a>1; 1 b>2; 2*", "start 0; 0", "start 0; 0 a>1; 1 b>2; 2*"},
	{"start 0; 0 a>0 b>0", "start 1; 0*; 1 b>0; 2 a>2", "start 0; 0", "start 0; 0 b>1; 1*", "start 0; 0", "start 0; 0 b>1; 1*"},
	{"start 0; 0 a>1; 1; 2*", "start 0; 0*", "start 0; 0", "start 0; 0*", "start 0; 0", "start 0; 0*"},
	// Disjoint languages.
	{"start 0; 0 a>1; 1*", "start 0; 0 b>1; 1*", "start 0; 0", "start 0; 0 a>1 b>1; 1*", "start 0; 0 a>1; 1*", "start 0; 0 b>1; 1*"},
	{"start 0; 0 a>1; 1 a>0 b>2; 2*", "start 0; 0 a>1; 1 a>0 c>2; 2*", "start 0; 0", "start 0; 0 a>1; 1 a>0 b>2 c>2; 2*", "start 0; 0 a>1; 1 a>0 b>2; 2*", "start 0; 0 a>1; 1 a>0 c>2; 2*"},
	{"start 0; 0* a>1; 1 a>0", "start 0; 0 a>1; 1* a>0", "start 0; 0", "start 0; 0* a>0", "start 0; 0* a>1; 1 a>0", "start 0; 0 a>1; 1* a>0"},
	// The empty word in one language only.
	{"start 0; 0*", "start 0; 0 a>1; 1*", "start 0; 0", "start 0; 0* a>1; 1*", "start 0; 0*", "start 0; 0 a>1; 1*"},
	{"start 0; 0* a>0", "start 0; 0 a>1; 1* a>1", "start 0; 0 a>1; 1* a>1", "start 0; 0* a>0", "start 0; 0*", "start 0; 0"},
	{"start 0; 0* b>0", "start 0; 0 a>1; 1* a>1", "start 0; 0", "start 0; 0* a>1 b>2; 1* a>1; 2* b>2", "start 0; 0* b>0", "start 0; 0 a>1; 1* a>1"},
	{"start 0; 0* a>1; 1*", "start 0; 0 a>1 b>1; 1*", "start 0; 0 a>1; 1*", "start 0; 0* a>1 b>1; 1*", "start 0; 0*", "start 0; 0 b>1; 1*"},
	// Only one of them has a transition for a letter, at once or later, also where the other has one to a dead state.
	{"start 0; 0 a>1 b>1; 1*", "start 0; 0 b>1 c>1; 1*", "start 0; 0 b>1; 1*", "start 0; 0 a>1 b>1 c>1; 1*", "start 0; 0 a>1; 1*", "start 0; 0 c>1; 1*"},
	{"start 0; 0 a>1 b>1 c>2; 1*; 2 a>2", "start 0; 0 b>1 c>1 a>2; 1* b>2; 2", "start 0; 0 b>1; 1*", "start 0; 0 a>1 b>1 c>1; 1*", "start 0; 0 a>1; 1*", "start 0; 0 c>1; 1*"},
	{"start 0; 0 a>1; 1*", "start 0; 0 a>1; 1 b>2; 2*", "start 0; 0", "start 0; 0 a>1; 1* b>2; 2*", "start 0; 0 a>1; 1*", "start 0; 0 a>1; 1 b>2; 2*"},
	{"start 0; 0 a>1; 1 b>2; 2*", "start 0; 0 a>1; 1 2>2; 2* a>2", "start 0; 0", "start 0; 0 a>1; 1 b>2 2>3; 2*; 3* a>3", "start 0; 0 a>1; 1 b>2; 2*", "start 0; 0 a>1; 1 2>2; 2* a>2"},
	{"start 0; 0* a>0 0>0", "start 0; 0* a>0 1>0", "start 0; 0* a>0", "start 0; 0* a>0 0>1 1>2; 1* a>1 0>1; 2* a>2 1>2", "start 0; 0 a>0 0>1; 1* a>1 0>1", "start 0; 0 a>0 1>1; 1* a>1 1>1"},
	{"start 0; 0* a>0", "start 0; 0* a>0 b>0", "start 0; 0* a>0", "start 0; 0* a>0 b>0", "start 0; 0", "start 0; 0 a>0 b>1; 1* a>1 b>1"},
	// One includes the other, or both have words of their own.
	{"start 0; 0* a>1; 1* a>2; 2*", "start 0; 0 a>1; 1*", "start 0; 0 a>1; 1*", "start 0; 0* a>1; 1* a>2; 2*", "start 0; 0* a>1; 1 a>2; 2*", "start 0; 0"},
	{"start 0; 0* a>1; 1 a>0", "start 0; 0* a>1; 1 a>2; 2 a>0", "start 0; 0* a>1; 1 a>2; 2 a>3; 3 a>4; 4 a>5; 5 a>0", "start 0; 0* a>1; 1 a>2; 2* a>3; 3* a>4; 4* a>5; 5 a>0", "start 0; 0 a>1; 1 a>2; 2* a>3; 3 a>4; 4* a>5; 5 a>0", "start 0; 0 a>1; 1 a>2; 2 a>3; 3* a>4; 4 a>5; 5 a>0"},
	{"start 0; 0* a>1 b>1; 1 a>0 b>0", "start 0; 0 a>1 b>0; 1* a>1 b>0", "start 0; 0 a>1 b>1; 1 a>2 b>0; 2* a>1 b>1", "start 0; 0* a>1 b>2; 1* a>0 b>0; 2 a>0 b>0", "start 0; 0* a>1 b>1; 1 a>2 b>0; 2 a>1 b>1", "start 0; 0 a>1 b>2; 1* a>0 b>0; 2 a>0 b>0"},
}

func TestCombinations(t *testing.T) {
	for _, c := range combinations {
		a, b := automatonOf(t, c[0]), automatonOf(t, c[1])
		for i, o := range pairOperations() {
			checkOperation(t, o, a, b, automatonOf(t, c[2+i]), true)
		}
		for i, want := range []string{c[2], c[3], c[5]} {
			checkOperation(t, pairOperations()[i], b, a, automatonOf(t, want), true)
		}
		checkOperations(t, a, b, []int{0, 2, 4, 6, 8}, 4)
		checkOperations(t, b, a, []int{0, 2, 4, 6, 8}, 4)
		// A difference without words is inclusion.
		checkIncludes(t, a, b, c[5] == "start 0; 0")
		checkIncludes(t, b, a, c[4] == "start 0; 0")
		checkEquivalent(t, a, b, c[4] == "start 0; 0" && c[5] == "start 0; 0")
	}
}

// The same automaton as both arguments need not be minimal.
func TestCombinationsOfOneAutomaton(t *testing.T) {
	check := func(a impl.Automaton) {
		minimal := wantedMinimal(a)
		for i, want := range []impl.Automaton{minimal, minimal, withStates(1)} {
			checkOperation(t, pairOperations()[i], a, a, want, true)
		}
		checkMissing(t, a, a, nil, false)
		checkIncludes(t, a, a, true)
		checkEquivalent(t, a, a, true)
	}
	eachSmallAutomaton(check)
	for _, a := range validAutomata(t) {
		check(a)
	}
}

// after returns the automaton of all words that begin with the letter, followed by a word of the automaton; its last state is the start.
func after(letter int, a impl.Automaton) impl.Automaton {
	row := emptyRow()
	row[letter] = a.Start
	out := withState(a, false, row)
	out.Start = len(a.Accept)
	return out
}

// chainOf returns the automaton of one word.
func chainOf(t *testing.T, s string) impl.Automaton {
	word := wordFrom(t, s)
	a := withStates(len(word) + 1)
	for i, letter := range word {
		a.Next[i][letter] = i + 1
	}
	a.Accept[len(word)] = true
	return a
}

func checkStates(t *testing.T, o operation, a impl.Automaton, b impl.Automaton, states int) {
	t.Helper()
	if n := len(wantedMinimal(wantedPairs(a, b, o.accepts)).Accept); n != states {
		t.Fatalf("the automaton for %s(%v, %v) has %d states; want %d", o.name, a, b, n, states)
	}
	if c, ok := o.call(a, b); ok != (states <= 12) || ok && len(c.Accept) != states {
		t.Fatalf("%s(%v, %v) = %v, %v", o.name, a, b, c, ok)
	}
	want, ok := wantedOperation(o, a, b)
	checkOperation(t, o, a, b, want, ok)
}

func TestCombinationsOfMostStates(t *testing.T) {
	three, four := ring(3, 0), ring(4, 0)
	for _, o := range pairOperations() {
		checkStates(t, o, three, four, 12)
		checkStates(t, o, four, three, 12)
		checkStates(t, o, after(7, three), after(7, four), 13)
		checkStates(t, o, after(7, four), after(7, three), 13)
		checkStates(t, o, ring(3, 8), ring(5, 8), 15)
		checkStates(t, o, ring(12, 4), ring(11, 4), 132)
	}
	both, either, firstOnly := pairOperations()[0], pairOperations()[1], pairOperations()[2]
	checkOperation(t, both, three, four, ring(12, 0), true)
	// Words that share their last letters: a chain of eleven or twelve letters, and two chains that meet.
	checkStates(t, either, chainOf(t, "a b b b b c"), chainOf(t, "b a a a a a c"), 12)
	checkStates(t, either, chainOf(t, "a b b b b b c"), chainOf(t, "b a a a a a c"), 13)
	checkStates(t, either, chainOf(t, "a a a a a a a a a a a"), withRows(emptyRow()), 12)
	checkStates(t, either, chainOf(t, "a a a a a a a a a a a"), chainOf(t, "b b"), 13)
	// All words but one.
	checkStates(t, firstOnly, full(1), chainOf(t, "a a a a a a a a a a"), 12)
	checkStates(t, firstOnly, full(1), chainOf(t, "a a a a a a a a a a a"), 13)
	checkStates(t, firstOnly, full(5), chainOf(t, "a b c 0 1 2 a b c 0"), 12)
	checkStates(t, firstOnly, full(5), chainOf(t, "a b c 0 1 2 a b c 0 1"), 13)
	// As many states as an automaton can have stay.
	for _, a := range []impl.Automaton{ring(12, 0), ring(12, 8), chainOf(t, "a b c a b c a b c a b")} {
		checkStates(t, both, a, full(12), 12)
		checkStates(t, either, a, withStates(12), 12)
		checkStates(t, firstOnly, a, withStates(12), 12)
	}
}

// completed returns the automaton with a transition to the state where there is none.
func completed(a impl.Automaton, state int) impl.Automaton {
	a = cloneAutomaton(a)
	for _, row := range a.Next {
		for letter, next := range row {
			if next < 0 {
				row[letter] = state
			}
		}
	}
	return a
}

// Where a transition is missing, the complement has a state more.
func TestComplementOfMostStates(t *testing.T) {
	complement := operations()[3]
	check := func(a impl.Automaton, states int) {
		t.Helper()
		checkStates(t, complement, a, withStates(1), states)
	}
	for _, letter := range []int{0, 8} {
		for states := 2; states <= 12; states++ {
			a := ring(states, letter)
			check(a, states+1)
			// Without a missing transition there are only the states that are there.
			check(completed(a, 0), states)
			check(completed(a, states-1), states)
			// A single missing transition is enough.
			for _, place := range []int{0, states - 1} {
				one := completed(a, 0)
				one.Next[place][4] = -1
				check(one, states+1)
			}
			// A dead state is there already.
			if states < 12 {
				dead := withState(a, false, to(states))
				check(dead, states+1)
				check(completed(dead, states), states+1)
			}
		}
	}
	check(chainOf(t, "a b c a b c a b c a"), 12)
	check(chainOf(t, "a b c a b c a b c a b"), 13)
	want := ring(12, 3)
	for state, row := range want.Next {
		for letter := range row {
			if letter != 3 {
				row[letter] = 0
			}
		}
		want.Accept[state] = state < 11
	}
	checkComplement(t, completed(ring(12, 3), 0), want, true)
}

// Here words lead to all 169 pairs, but few are needed.
func TestCombinationsOfAllPairs(t *testing.T) {
	a, b := withStates(12), withStates(12)
	for state := range 12 {
		a.Next[state] = []int{(state + 1) % 12, state, state, -1, state, -1, state, -1, -1}
		b.Next[state] = []int{state, (state + 5) % 12, -1, state, -1, state, state, -1, -1}
		a.Accept[state], b.Accept[state] = true, true
	}
	for _, o := range pairOperations() {
		for _, pair := range [][2]impl.Automaton{{a, b}, {b, a}} {
			if n := len(wantedPairs(pair[0], pair[1], o.accepts).Accept); n != 169 {
				t.Fatalf("words lead to %d pairs", n)
			}
		}
	}
	checkStates(t, pairOperations()[0], a, b, 1)
	checkStates(t, pairOperations()[1], a, b, 3)
	checkStates(t, pairOperations()[2], a, b, 2)
	checkOperation(t, pairOperations()[1], a, b, automatonOf(t, "start 0; 0* a>0 a->0 b>1 b->2 c>1 c->2 0>0; 1* a>1 a->1 b>1 c>1 0>1; 2* a>2 a->2 b->2 c->2 0>2"), true)
	// With one accepting state each, the pairs of states are all different.
	clear(a.Accept[1:])
	clear(b.Accept[1:])
	for i, states := range []int{144, 168, 156} {
		checkStates(t, pairOperations()[i], a, b, states)
	}
}

func TestOperationsOnSmallAutomata(t *testing.T) {
	var list []impl.Automaton
	eachSmallAutomaton(func(a impl.Automaton) { list = append(list, a) })
	r := rand.New(rand.NewSource(13))
	for _, a := range list {
		for range 3 {
			checkOperations(t, a, list[r.Intn(len(list))], []int{1, 4, 8}, 3)
		}
	}
}

func TestOperationsOnAutomata(t *testing.T) {
	r := rand.New(rand.NewSource(131))
	yes, no := 0, 0
	check := func(a impl.Automaton, b impl.Automaton, length int) {
		count := checkOperations(t, a, b, []int{0, 4, 8}, length)
		yes, no = yes+count, no+4-count
	}
	for range 1500 {
		check(randomAutomaton(r, 1+r.Intn(5), 1+r.Intn(3), 3*r.Float64()), randomAutomaton(r, 1+r.Intn(5), 1+r.Intn(3), 3*r.Float64()), 4)
	}
	for range 150 {
		check(randomAutomaton(r, 6+r.Intn(7), 1+r.Intn(3), 1+2*r.Float64()), randomAutomaton(r, 1+r.Intn(12), 1+r.Intn(3), 1+2*r.Float64()), 3)
		check(randomAutomaton(r, 4+r.Intn(9), 3, 3), randomAutomaton(r, 4+r.Intn(5), 3, 3), 3)
	}
	for range 150 {
		a := randomAutomaton(r, 1+r.Intn(4), 2, 1+r.Float64())
		check(doubled(r, a, 4+r.Intn(5)), doubled(r, a, 4+r.Intn(5)), 3)
	}
	if yes < 5000 || no < 300 {
		t.Errorf("%d operations have a result, and %d have none", yes, no)
	}
}

// The operations on the automata of expressions accept exactly the words that they should, by the languages of the expressions.
func TestOperationsOnLanguages(t *testing.T) {
	r := rand.New(rand.NewSource(1313))
	accepted := 0
	for range 1500 {
		e, f := randomExpr(r, 1+r.Intn(9)), randomExpr(r, 1+r.Intn(9))
		a, ok := impl.CompileExpr(e)
		b, also := impl.CompileExpr(f)
		if !ok || !also {
			continue
		}
		words := append(wordsNear(r, randomWordOf(r, e)), wordsNear(r, randomWordOf(r, f))...)
		eachList([]int{0, 2, 3, 7}, 2, func(word []int) { words = append(words, word) })
		for _, o := range operations() {
			c, ok := o.call(a, b)
			for _, word := range words {
				if !ok || len(word) > 8 {
					continue
				}
				want := o.accepts(impl.MatchesWord(e, word), impl.MatchesWord(f, word))
				if impl.AcceptsWord(c, word) != want {
					t.Fatalf("%s of the automata of %v and %v: AcceptsWord(%v) = %v", o.name, e, f, word, !want)
				}
				if want {
					accepted++
				}
			}
		}
	}
	if accepted < 10000 {
		t.Errorf("only %d words are accepted", accepted)
	}
}

func TestShortestAccepted(t *testing.T) {
	for _, c := range [][2]string{
		// A start that accepts.
		{"start 0; 0*", "()"}, {"start 0; 0* a>0", "()"}, {"start 1; 0 a>1; 1* a>0", "()"}, {"start 0; 0* a>1; 1", "()"}, {"start 1; 0; 1*", "()"},
		// One letter, and several words of the same length, of which the least is not that of the least state.
		{"start 0; 0 a>1; 1*", "a"}, {"start 0; 0 2>1; 1* 2>0", "2"}, {"start 0; 0 a>0 b>1; 1*", "b"}, {"start 0; 0 2>1 c>2; 1*; 2*", "c"}, {"start 0; 0 a->1 b>1 c>2; 1*; 2*", "a-"}, {"start 2; 0*; 1*; 2 c>0 b>1", "b"},
		{"start 0; 0 a>2 b>1; 1 a>3; 2 c>3; 3*", "a c"}, {"start 0; 0 a>1 b>2; 1 2>3; 2 a>3; 3*", "a 2"}, {"start 0; 0 a>3 b>1; 1 a>2; 2*; 3 b>4; 4 c>2", "b a"}, {"start 0; 0 a>1 a->2; 1 b>3 c>4; 2 a>5; 3 b>5; 4 a>5; 5*", "a- a"}, {"start 0; 0 a>1 b>2; 1 b>3 2>4; 2 a>5; 3 2>6; 4 a>6; 5 a>6; 6*", "a b 2"},
		// A shorter word is less than any longer one.
		{"start 0; 0 a>1 2>2; 1 a>2; 2*", "2"}, {"start 0; 0 a>0 b>1; 1 a>1 2>2; 2*", "b 2"}, {"start 0; 0 a>1 2>3; 1 a>2; 2 a>4; 3 2>4; 4*", "2 2"},
		// States from which nothing is accepted.
		{"start 0; 0 a>1 b>2; 1 a>1; 2*", "b"}, {"start 0; 0 a>1 b>2; 1; 2 a>1 b>3; 3* a>0", "b b"}, {"start 2; 0 a>0; 1*; 2 a>0 a->0 2>1", "2"},
		// More letters than a word of chapter 2 has.
		{"start 0; 0 a>1; 1 b>2; 2 c>3; 3 a>4; 4 b>5; 5 c>6; 6 a>7; 7 b>8; 8*", "a b c a b c a b"}, {"start 0; 0 a>1; 1 b>2; 2 c>3; 3 a>4; 4 b>5; 5 c>6; 6 a>7; 7 b>8; 8 c>9; 9*", "a b c a b c a b c"}, {"start 11; 0*; 1 a>0; 2 b>1; 3 c>2; 4 0>3; 5 1>4; 6 2>5; 7 a->6; 8 b->7; 9 c->8; 10 a>9; 11 a>10", "a a c- b- a- 2 1 0 c b a"},
	} {
		checkShortest(t, automatonOf(t, c[0]), wordFrom(t, c[1]), true)
		checkEmpty(t, automatonOf(t, c[0]), false)
	}
	for states := 1; states <= 12; states++ {
		for _, letter := range []int{0, 5, 8} {
			checkShortest(t, ring(states, letter), slices.Repeat([]int{letter}, states-1), true)
		}
		checkShortest(t, full(states), nil, true)
	}
}

// No word is accepted, also where there is an accepting state that is not reached.
func TestEmptyAutomata(t *testing.T) {
	for _, s := range []string{"start 0; 0", "start 0; 0 a>0", "start 0; 0; 1*", "start 1; 0*; 1", "start 1; 0* a>1; 1", "start 1; 0* a>0 b>1; 1 c>1", "start 0; 0 a>1; 1 b>0; 2* a>0", "start 0; 0 a>1; 1 a>1; 2 a>3; 3* a>1", "start 2; 0 a>1; 1* a>2; 2 2>2"} {
		checkEmpty(t, automatonOf(t, s), true)
		checkShortest(t, automatonOf(t, s), nil, false)
	}
	for states := 1; states <= 12; states++ {
		checkEmpty(t, withStates(states), true)
		checkShortest(t, withStates(states), nil, false)
		a := full(states)
		clear(a.Accept)
		checkEmpty(t, a, true)
		checkShortest(t, a, nil, false)
		a.Accept[states-1] = true
		checkEmpty(t, a, false)
		for state := range states {
			a = withStates(states)
			a.Accept[state] = true
			checkEmpty(t, a, state != 0)
		}
	}
}

// checkWords checks all functions that look for a word, with valid automata, against words that are looked for from their ends on.
func checkWords(t *testing.T, a impl.Automaton, b impl.Automaton) {
	t.Helper()
	shortest, ok := leastPairWords(a, a, func(x bool, y bool) bool { return x && y })(a.Start, a.Start)
	checkShortest(t, a, shortest, ok)
	checkEmpty(t, a, !ok)
	missing, some := leastPairWords(a, b, func(inA bool, inB bool) bool { return inB && !inA })(a.Start, b.Start)
	checkMissing(t, a, b, missing, some)
	checkIncludes(t, a, b, !some)
	_, other := leastPairWords(b, a, func(inB bool, inA bool) bool { return inA && !inB })(b.Start, a.Start)
	checkIncludes(t, b, a, !other)
	checkEquivalent(t, a, b, !some && !other)
	if some && (impl.AcceptsWord(a, missing) || !impl.AcceptsWord(b, missing)) {
		t.Fatalf("MissingWord(%v, %v) = %v, which is not missing", a, b, missing)
	}
	// The least missing word is the least one of the difference.
	if difference, ok := impl.SubtractAutomata(b, a); ok {
		checkShortest(t, difference, missing, some)
	}
}

func TestWordsOfSmallAutomata(t *testing.T) {
	var list []impl.Automaton
	eachSmallAutomaton(func(a impl.Automaton) { list = append(list, a) })
	r := rand.New(rand.NewSource(132))
	for _, a := range list {
		for range 6 {
			checkWords(t, a, list[r.Intn(len(list))])
		}
	}
}

func TestWordsOfAutomata(t *testing.T) {
	r := rand.New(rand.NewSource(133))
	for _, a := range validAutomata(t) {
		checkWords(t, a, randomAutomaton(r, 1+r.Intn(12), 1+r.Intn(3), 3*r.Float64()))
		// Languages that differ little: one transition, or what one state accepts, is changed.
		states := len(a.Accept)
		state, letter := r.Intn(states), r.Intn(9)
		checkWords(t, a, changed(a, func(a *impl.Automaton) { a.Next[state][letter] = r.Intn(states+1) - 1 }))
		checkWords(t, a, changed(a, func(a *impl.Automaton) { a.Accept[state] = !a.Accept[state] }))
		checkWords(t, a, wantedMinimal(a))
	}
}

func TestMissingWord(t *testing.T) {
	for _, c := range [][3]string{
		// The empty word.
		{"start 0; 0", "start 0; 0*", "()"}, {"start 0; 0 a>1; 1*", "start 0; 0* a>1; 1*", "()"}, {"start 0; 0 a>0; 1*", "start 1; 0; 1* a>0 b>1", "()"}, {"start 0; 0 a>1; 1* a>1", "start 0; 0* b>0", "()"},
		// One that leads out of the transitions of the first automaton, where it may be, or have been, in an accepting state.
		{"start 0; 0*", "start 0; 0* a>1; 1*", "a"}, {"start 0; 0* a>0", "start 0; 0* a>0 b>0", "b"}, {"start 0; 0* a>1; 1* a>0", "start 0; 0 a>1; 1 2>2; 2*", "a 2"}, {"start 0; 0* a>0", "start 0; 0 a>1; 1 b>2; 2 a>3; 3*", "a b a"}, {"start 0; 0 a>1; 1*", "start 0; 0 a>1; 1* a>2; 2* a>0", "a a"}, {"start 0; 0", "start 0; 0 a>1; 1 b>2; 2 c>3; 3*", "a b c"},
		// One after which the first has a state, which does not accept.
		{"start 0; 0* a>1; 1 a>0", "start 0; 0* a>0", "a"}, {"start 0; 0* a>1; 1 a>0", "start 0; 0* a>1; 1 a>2; 2 a>0", "a a a"}, {"start 0; 0 a>1; 1 a>1; 2*", "start 0; 0 a>1; 1 a>2; 2*", "a a"},
		// One that leads to a dead state of the first.
		{"start 0; 0* a>0 b>1; 1 a>1 b>1", "start 0; 0* a>0 b>0", "b"}, {"start 0; 0* a>1; 1", "start 0; 0* a>1; 1 b>2; 2*", "a b"},
		// Several of the same length.
		{"start 0; 0", "start 0; 0 b>1 a>1 2>1; 1*", "a"}, {"start 0; 0 a>1; 1*", "start 0; 0 a>1 2>1 c->2; 1*; 2*", "c-"}, {"start 0; 0 a>1; 1 a>2; 2*", "start 0; 0 a>1 b>2; 1 a>3 2>3; 2 a>3; 3*", "a 2"}, {"start 0; 0 a>1 b>1; 1*", "start 0; 0 a>2 b>1; 1 a>3; 2 c>3; 3*", "a c"}, {"start 0; 0 a>1; 1 c>2; 2*", "start 0; 0 a>2 b>1; 1 a>3 b>3; 2 c>3; 3*", "b a"},
		// A shorter one is less than any longer one, even if that comes first in the order of the letters.
		{"start 0; 0*", "start 0; 0* a>1 2>2; 1 a>2; 2*", "2"}, {"start 0; 0 2>1; 1*", "start 0; 0 a>1 2>3; 1 a>2; 2 a>3; 3* 2>4; 4*", "2 2"},
		// Disjoint languages: the least word of the second.
		{"start 0; 0 a>1; 1*", "start 0; 0 b>1; 1* b>1", "b"}, {"start 0; 0* a>1; 1 a>0", "start 0; 0 a>1; 1* a>0", "a"}, {"start 0; 0 a>1; 1* a>0", "start 0; 0* a>1; 1 a>0", "()"},
		// States of the second that are not reached, or lead to nothing, are not looked at.
		{"start 0; 0* a>0", "start 1; 0* b>0; 1* a>1 c>2; 2 b>2", ""}, {"start 0; 0* a>0", "start 1; 0* b>0; 1* a>1 c>2; 2 c>0", "c c"},
		// The first includes the second.
		{"start 0; 0", "start 0; 0", ""}, {"start 0; 0*", "start 0; 0", ""}, {"start 0; 0*", "start 0; 0*", ""}, {"start 0; 0* a>0 b>0", "start 0; 0* a>0", ""}, {"start 0; 0* a>0", "start 0; 0* a>1; 1 a>0", ""}, {"start 0; 0 a>0", "start 0; 0 b>0; 1*", ""}, {"start 0; 0* a>0", "start 0; 0 a>1; 1 a>2 b>3; 2*; 3 a>3", ""}, {"start 0; 0 a>1 b>1; 1*", "start 1; 0*; 1 a>2 b>0; 2*", ""}, {"start 0; 0* a>1; 1 a>0", "start 0; 0* a>1; 1 a>2; 2 a>3; 3 a>0", ""},
	} {
		a, b := automatonOf(t, c[0]), automatonOf(t, c[1])
		checkMissing(t, a, b, wordFrom(t, c[2]), c[2] != "")
		checkIncludes(t, a, b, c[2] == "")
		checkWords(t, a, b)
		checkWords(t, b, a)
	}
	for states := 1; states <= 12; states++ {
		checkMissing(t, withStates(1), full(states), nil, true)
		checkMissing(t, full(states), withStates(1), nil, false)
		checkMissing(t, full(states), ring(12, 0), nil, false)
	}
}

// A missing word may have more letters than a word of chapter 2, and more than there are states.
func TestLongMissingWords(t *testing.T) {
	for _, letter := range []int{0, 8} {
		checkMissing(t, withStates(1), ring(12, letter), slices.Repeat([]int{letter}, 11), true)
		checkMissing(t, ring(11, letter), ring(12, letter), slices.Repeat([]int{letter}, 11), true)
		checkMissing(t, ring(12, letter), ring(11, letter), slices.Repeat([]int{letter}, 10), true)
		for _, states := range []int{5, 7, 11} {
			// Only one word in so many is not accepted, and only one in twelve is asked for.
			a := ring(states, letter)
			for state := range a.Accept {
				a.Accept[state] = state != states-1
			}
			checkMissing(t, a, ring(12, letter), slices.Repeat([]int{letter}, 12*states-1), true)
			checkIncludes(t, a, ring(12, letter), false)
			if states == 5 {
				b := ring(12, letter)
				b.Accept[10] = true
				checkMissing(t, a, b, slices.Repeat([]int{letter}, 34), true)
			}
		}
	}
	a := automatonOf(t, "start 0; 0 a>1; 1 b>2; 2 c>3; 3 a>4; 4 b>5; 5 c>6; 6 a>7; 7 b>8; 8*")
	checkMissing(t, a, chainOf(t, "a b c a b c a b c"), wordFrom(t, "a b c a b c a b c"), true)
	checkMissing(t, a, chainOf(t, "a b c a b c a b"), nil, false)
	checkMissing(t, chainOf(t, "a b c a b c a b c"), a, wordFrom(t, "a b c a b c a b"), true)
}

// An automaton has the same language as one with other numbers, or with useless states, and not the same as one that differs elsewhere.
func TestEquivalentAutomata(t *testing.T) {
	r := rand.New(rand.NewSource(134))
	for _, minimal := range minimalAutomata(t) {
		states := len(minimal.Accept)
		checkEquivalent(t, minimal, minimal, true)
		for s := range states {
			for u := range s {
				checkEquivalent(t, minimal, exchanged(minimal, s, u), true)
			}
			// Every state of a minimal automaton that has a word is reached, so it makes a difference whether it accepts.
			other := changed(minimal, func(a *impl.Automaton) { a.Accept[s] = !a.Accept[s] })
			checkEquivalent(t, minimal, other, false)
			checkIncludes(t, minimal, other, minimal.Accept[s])
			checkIncludes(t, other, minimal, !minimal.Accept[s])
		}
		if states == 12 {
			continue
		}
		for _, other := range []impl.Automaton{
			withState(minimal, false, emptyRow()), withState(minimal, true, to(states)), withState(minimal, minimal.Accept[0], slices.Clone(minimal.Next[0])),
			completed(withState(minimal, false, emptyRow()), states), doubled(r, minimal, 12),
		} {
			checkEquivalent(t, minimal, other, true)
			checkIncludes(t, minimal, other, true)
			checkIncludes(t, other, minimal, true)
			checkMissing(t, minimal, other, nil, false)
			checkMissing(t, other, minimal, nil, false)
		}
		// A word more.
		for place := range states * 9 {
			if minimal.Next[place/9][place%9] < 0 && impl.AcceptsWord(minimal, nil) {
				other := withState(minimal, true, emptyRow())
				other.Next[place/9][place%9] = states
				checkEquivalent(t, minimal, other, false)
				checkIncludes(t, minimal, other, false)
				checkIncludes(t, other, minimal, true)
			}
		}
	}
	for _, c := range []struct {
		a, b                   string
		aIncludesB, bIncludesA bool
	}{
		{"start 0; 0", "start 1; 0*; 1 a>1", true, true}, {"start 0; 0*", "start 1; 0; 1*", true, true}, {"start 0; 0* a>0", "start 0; 0* a>1; 1* a>0", true, true}, {"start 0; 0* a>1; 1", "start 0; 0*", true, true}, {"start 0; 0 a>1; 1*", "start 1; 0*; 1 a>0 b>2; 2 b>2", true, true},
		{"start 0; 0*", "start 0; 0", true, false}, {"start 0; 0* a>0", "start 0; 0 a>1; 1*", true, false}, {"start 0; 0* a>0 b>0", "start 0; 0* a>1; 1 b>0", true, false}, {"start 0; 0* a>1; 1 a>0", "start 0; 0* a>0", false, true},
		{"start 0; 0 a>1; 1*", "start 0; 0 b>1; 1*", false, false}, {"start 0; 0 a>1; 1*", "start 0; 0*", false, false}, {"start 0; 0* a>1; 1 a>0", "start 0; 0* a>1; 1 a>2; 2 a>0", false, false}, {"start 0; 0 a>1; 1 b>2; 2*", "start 0; 0 a>1; 1 c>2; 2*", false, false},
	} {
		a, b := automatonOf(t, c.a), automatonOf(t, c.b)
		checkIncludes(t, a, b, c.aIncludesB)
		checkIncludes(t, b, a, c.bIncludesA)
		checkEquivalent(t, a, b, c.aIncludesB && c.bIncludesA)
	}
}

// Expressions with the same language have equivalent automata, also before they are minimized.
func TestEquivalentLanguages(t *testing.T) {
	var automata [][]impl.Automaton
	for _, list := range sameLanguages {
		var group []impl.Automaton
		for _, s := range list {
			p, _ := impl.BuildPositions(exprOf(t, s))
			if a, ok := impl.Determinize(p); ok {
				group = append(group, a)
			}
		}
		if len(group) == 0 {
			t.Fatalf("no automata for %v", list)
		}
		automata = append(automata, group)
	}
	for i, group := range automata {
		for _, a := range group {
			for j, others := range automata {
				for _, b := range others {
					checkEquivalent(t, a, b, i == j)
				}
			}
		}
	}
}

func TestIsFiniteLanguage(t *testing.T) {
	for _, c := range []struct {
		a    string
		want bool
	}{
		// The empty language, also with loops.
		{"start 0; 0", true}, {"start 0; 0 a>0", true}, {"start 0; 0 a>1; 1 b>0", true}, {"start 0; 0 a>0; 1* a>1", true}, {"start 2; 0 a>1; 1* b>0; 2 a>2", true},
		// The empty word only.
		{"start 0; 0*", true}, {"start 1; 0 a>0; 1*", true}, {"start 0; 0* a>1; 1", true}, {"start 0; 0* a>1; 1 a>1", true},
		// Other finite languages, also where a state is reached in several ways.
		{"start 0; 0 a>1; 1*", true}, {"start 0; 0 a>1 b>1; 1* a>2 b>2; 2*", true}, {"start 0; 0* a>1 b>2 c>3; 1 a>2 b>3; 2 a>3; 3*", true}, {"start 3; 0*; 1 a>0; 2 a>1 b>0; 3 a>2 b>1 c>0", true},
		// A loop that is not reached, though it leads to acceptance.
		{"start 0; 0*; 1* a>1", true}, {"start 1; 0 a>0 b>1; 1*", true}, {"start 0; 0 a>1; 1*; 2 a>3; 3 a>2 b>1", true}, {"start 2; 0 a>0 b>1; 1*; 2 c>1", true},
		// A loop from which no accepting state is reached.
		{"start 0; 0* a>1; 1 b>1", true}, {"start 0; 0 a>1 b>2; 1*; 2 a>2", true}, {"start 0; 0 a>1 b>2; 1* b>2; 2 a>3; 3 a>2 c>4; 4", true},
		// A loop of one state on the way: at the start, in the middle and at the end.
		{"start 0; 0* a>0", false}, {"start 0; 0 2>0 a>1; 1*", false}, {"start 0; 0 a>1; 1 a>1 b>2; 2*", false}, {"start 0; 0 a>1; 1* 2>1", false}, {"start 0; 0* a>1; 1 a>1 b>2; 2*", false}, {"start 2; 0*; 1 b>1 a>0; 2 a>1", false}, {"start 0; 0 a>1 b>2; 1*; 2 a>2 b>1", false},
		// A loop of several states.
		{"start 0; 0* a>1; 1 a>0", false}, {"start 0; 0 a>1; 1* b>0", false}, {"start 0; 0 a>1; 1 b>2; 2 c>0 a>3; 3*", false}, {"start 0; 0 a>1; 1 a>2; 2 a>3; 3* a>1", false}, {"start 3; 0 a>1; 1 a>2; 2 a>0 b>4; 3 b>0; 4*", false}, {"start 0; 0 a>1; 1 a>2 b>3; 2 a>1; 3*", false}, {"start 0; 0* a>1; 1 b>2; 2 c>3 2>0; 3", false},
		// A loop besides one that does not count.
		{"start 0; 0* a>0 b>1; 1 b>1", false}, {"start 1; 0* b>0; 1* c>2; 2 c>1", false},
	} {
		checkFinite(t, automatonOf(t, c.a), c.want)
	}
	for states := 1; states <= 12; states++ {
		checkFinite(t, withStates(states), true)
		checkFinite(t, full(states), false)
		// The last state accepts; without the transition that closes the ring there is one word only.
		for _, letter := range []int{0, 8} {
			a := ring(states, letter)
			checkFinite(t, a, false)
			a.Next[states-1][letter] = -1
			checkFinite(t, a, true)
			for state := range states {
				a.Next[state][3] = state
				checkFinite(t, a, false)
				a.Next[state][3] = -1
			}
			a.Accept[states-1] = false
			a.Next[states-1][letter] = 0
			checkFinite(t, a, true)
		}
		// As many transitions as there can be without a loop.
		a := withStates(states)
		for state := range states {
			for letter := range 9 {
				if next := state + 1 + letter; next < states {
					a.Next[state][letter] = next
				}
			}
			a.Accept[state] = true
		}
		checkFinite(t, a, true)
		a.Next[states-1][0] = states / 2
		checkFinite(t, a, false)
	}
}

// wantedFinite reports whether no state between the start and acceptance comes back to itself.
func wantedFinite(a impl.Automaton) bool {
	reached := reaches(a)
	for _, state := range wantedUseful(a) {
		for _, next := range a.Next[state] {
			if next >= 0 && reached[next][state] {
				return false
			}
		}
	}
	return true
}

func TestFiniteLanguagesOfAutomata(t *testing.T) {
	finite, infinite := 0, 0
	check := func(a impl.Automaton) {
		want := wantedFinite(a)
		checkFinite(t, a, want)
		if len(wantedUseful(a)) > 1 && want {
			finite++
		} else if !want {
			infinite++
		}
	}
	eachSmallAutomaton(check)
	for _, a := range validAutomata(t) {
		check(a)
	}
	r := rand.New(rand.NewSource(135))
	for range 5000 {
		check(randomAutomaton(r, 1+r.Intn(12), 1+r.Intn(3), 1.5*r.Float64()))
	}
	if finite < 200 || infinite < 1000 {
		t.Errorf("%d languages of several words are finite, and %d are infinite", finite, infinite)
	}
	// By the words: an infinite language of three states has a word of three to five letters.
	eachSmallAutomaton(func(a impl.Automaton) {
		long := false
		eachList([]int{1, 8}, 5, func(word []int) { long = long || len(word) >= 3 && impl.AcceptsWord(a, word) })
		checkFinite(t, a, !long)
	})
}

// booleanWords returns the words that the functions find for the automata.
func booleanWords(a impl.Automaton, b impl.Automaton) [][]int {
	shortest, _ := impl.ShortestAccepted(a)
	missing, _ := impl.MissingWord(a, b)
	other, _ := impl.MissingWord(b, a)
	return [][]int{shortest, missing, other}
}

func TestBooleanArgumentsStay(t *testing.T) {
	list := append(validAutomata(t), invalidAutomata()...)
	for i, original := range list {
		a, memoryA := roomyAutomaton(original)
		b, memoryB := roomyAutomaton(list[(i*7+3)%len(list)])
		sameMemory := func(a impl.Automaton, rows [][]int) bool {
			return slices.EqualFunc(a.Next[:cap(a.Next)], rows, func(x []int, y []int) bool { return slices.Equal(x, y) && &x[:1][0] == &y[:1][0] })
		}
		beforeA, beforeB := cloneAutomaton(memoryA), cloneAutomaton(memoryB)
		rowsA, rowsB := slices.Clone(a.Next[:cap(a.Next)]), slices.Clone(b.Next[:cap(b.Next)])
		for _, o := range operations() {
			for _, pair := range [][2]impl.Automaton{{a, b}, {b, a}, {a, a}} {
				c, _ := o.call(pair[0], pair[1])
				scribbleAutomaton(c)
			}
		}
		scribbleWords(booleanWords(a, b))
		impl.IsEmptyAutomaton(a)
		impl.IncludesLanguage(a, b)
		impl.AreEquivalent(a, b)
		impl.IsFiniteLanguage(a)
		if !sameAutomaton(memoryA, beforeA) || !sameAutomaton(memoryB, beforeB) || !sameMemory(a, rowsA) || !sameMemory(b, rowsB) {
			t.Fatalf("the arguments %v and %v have changed", original, list[(i*7+3)%len(list)])
		}
	}
}

func TestBooleanResultsAreNewMemory(t *testing.T) {
	list := minimalAutomata(t)
	for i, a := range list {
		b := list[(i*5+2)%len(list)]
		for _, o := range operations() {
			checkNewMemory(t, func() impl.Automaton {
				c, _ := o.call(a, b)
				return c
			})
		}
		words := booleanWords(a, b)
		var before []string
		for _, word := range words {
			before = append(before, spelled(word))
		}
		scribbleWords(booleanWords(a, b))
		for i, word := range words {
			if spelled(word) != before[i] {
				t.Fatalf("the word %v shares memory", word)
			}
		}
	}
	// The result must not depend on the memory of the arguments.
	for _, s := range [][2]string{{"start 0; 0 a>1; 1* b>0", "start 0; 0* a>0 b>0"}, {"start 1; 0*; 1 a>0 b>1", "start 0; 0*"}, {"start 0; 0* a>0", "start 0; 0* a>0"}} {
		for _, o := range operations() {
			a, memoryA := roomyAutomaton(automatonOf(t, s[0]))
			b, memoryB := roomyAutomaton(automatonOf(t, s[1]))
			c, ok := o.call(a, b)
			words := booleanWords(a, b)
			for _, memory := range []impl.Automaton{a, memoryA, b, memoryB} {
				scribbleAutomaton(memory)
			}
			a, b = automatonOf(t, s[0]), automatonOf(t, s[1])
			want, wantOk := wantedOperation(o, a, b)
			if ok != wantOk || !sameAutomaton(c, want) || !slices.EqualFunc(words, booleanWords(a, b), func(x []int, y []int) bool { return slices.Equal(x, y) }) {
				t.Error(o.name, c, ok, words)
			}
		}
	}
}
