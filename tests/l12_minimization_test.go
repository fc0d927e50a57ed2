package tests

import (
	"cmp"
	"math"
	"math/rand"
	"slices"
	"testing"

	"loop.example/g01922/impl"
)

// leastPairWords returns for any state of a and any of b the least word for which accepts holds, given whether it leads from the one and from the other to an accepting state, if there is one. It looks for the words from their ends on, and for no state the number is -1.
func leastPairWords(a impl.Automaton, b impl.Automaton, accepts func(inA bool, inB bool) bool) func(s int, u int) ([]int, bool) {
	accepted := func(a impl.Automaton, state int) bool { return state >= 0 && a.Accept[state] }
	after := func(a impl.Automaton, state int, letter int) int {
		if state < 0 {
			return -1
		}
		return a.Next[state][letter]
	}
	place := func(s int, u int) int { return (s+1)*(len(b.Accept)+1) + u + 1 }
	words := make([][]int, place(len(a.Accept), 0))
	eachPair := func(f func(s int, u int)) {
		for s := -1; s < len(a.Accept); s++ {
			for u := -1; u < len(b.Accept); u++ {
				f(s, u)
			}
		}
	}
	eachPair(func(s int, u int) {
		if accepts(accepted(a, s), accepted(b, u)) {
			words[place(s, u)] = []int{}
		}
	})
	for grown := true; grown; {
		longer := slices.Clone(words)
		grown = false
		eachPair(func(s int, u int) {
			for letter := 0; letter < 9 && longer[place(s, u)] == nil; letter++ {
				if rest := words[place(after(a, s, letter), after(b, u, letter))]; rest != nil {
					longer[place(s, u)], grown = append([]int{letter}, rest...), true
				}
			}
		})
		words = longer
	}
	return func(s int, u int) ([]int, bool) {
		word := words[place(s, u)]
		return word, word != nil
	}
}

// leastDifferences returns for any two states the least word that leads from exactly one of them to an accepting state, if there is one.
func leastDifferences(a impl.Automaton) func(s int, u int) ([]int, bool) {
	return leastPairWords(a, a, func(x bool, y bool) bool { return x != y })
}

func wantedClasses(a impl.Automaton) []int {
	differences := leastDifferences(a)
	differ := func(s int, t int) bool {
		_, found := differences(s, t)
		return found
	}
	var classes, firsts []int
	for state := range a.Accept {
		class := slices.IndexFunc(firsts, func(first int) bool { return !differ(first, state) })
		if class < 0 && differ(state, -1) {
			class = len(firsts)
			firsts = append(firsts, state)
		}
		classes = append(classes, class)
	}
	return classes
}

// wantedMinimal numbers the classes of the useful states by the least words that lead to them. The automaton may have any number of states.
func wantedMinimal(a impl.Automaton) impl.Automaton {
	useful, classes := wantedUseful(a), wantedClasses(a)
	if !slices.Contains(useful, a.Start) {
		return withStates(1)
	}
	words := leastWords(a, useful)
	slices.SortFunc(useful, func(s int, t int) int {
		return cmp.Or(cmp.Compare(len(words[s]), len(words[t])), slices.Compare(words[s], words[t]))
	})
	var found []int
	for _, state := range useful {
		if !slices.Contains(found, classes[state]) {
			found = append(found, classes[state])
		}
	}
	out := withStates(len(found))
	for number, class := range found {
		state := slices.Index(classes, class)
		out.Accept[number] = a.Accept[state]
		for letter, next := range a.Next[state] {
			if next >= 0 {
				out.Next[number][letter] = slices.Index(found, classes[next])
			}
		}
	}
	return out
}

func checkClasses(t *testing.T, a impl.Automaton, want []int) {
	t.Helper()
	if classes := impl.StateClasses(a); !slices.Equal(classes, want) {
		t.Fatalf("StateClasses(%v) = %v; want %v", a, classes, want)
	}
}

func checkIsMinimal(t *testing.T, a impl.Automaton, want bool) {
	t.Helper()
	if impl.IsMinimal(a) != want {
		t.Fatalf("IsMinimal(%v) = %v", a, !want)
	}
}

func checkMinimized(t *testing.T, a impl.Automaton, want impl.Automaton) {
	t.Helper()
	if minimal := impl.Minimize(a); !sameAutomaton(minimal, want) {
		t.Fatalf("Minimize(%v) = %v; want %v", a, minimal, want)
	}
}

func checkDistinguished(t *testing.T, a impl.Automaton, x int, y int, want []int, wantOk bool) {
	t.Helper()
	if word, ok := impl.DistinguishingWord(a, x, y); ok != wantOk || !slices.Equal(word, want) {
		t.Fatalf("DistinguishingWord(%v, %d, %d) = %v, %v; want %v, %v", a, x, y, word, ok, want, wantOk)
	}
}

// checkCompiled checks a compiled expression; want is the format of its automaton, or empty if it has none.
func checkCompiled(t *testing.T, e impl.Expr, want string) {
	t.Helper()
	wantedA := impl.Automaton{}
	if want != "" {
		wantedA = automatonOf(t, want)
	}
	if a, ok := impl.CompileExpr(e); ok != (want != "") || !sameAutomaton(a, wantedA) {
		t.Fatalf("CompileExpr(%v) = %v, %v; want %q", e, a, ok, want)
	}
}

// With an automaton that is not valid every function has a result of its own.
func TestMinimizationInvalid(t *testing.T) {
	for _, a := range invalidAutomata() {
		checkClasses(t, a, nil)
		checkMinimized(t, a, impl.Automaton{})
		checkIsMinimal(t, a, false)
		for _, pair := range [][2]int{{0, 0}, {0, 1}, {1, 0}, {0, 2}, {11, 0}, {-1, 0}, {0, len(a.Accept) - 1}, {len(a.Accept), 0}} {
			checkDistinguished(t, a, pair[0], pair[1], nil, false)
		}
	}
	// One state too many makes automata invalid that would have a minimal one.
	checkMinimized(t, ring(13, 0), impl.Automaton{})
	checkMinimized(t, full(13), impl.Automaton{})
	checkIsMinimal(t, impl.Automaton{}, false)
}

func TestMinimization(t *testing.T) {
	for _, c := range []struct {
		a       string
		classes []int
		want    string
	}{
		{"start 0; 0", []int{-1}, "start 0; 0"}, {"start 0; 0*", []int{0}, "start 0; 0*"}, {"start 0; 0 a>0", []int{-1}, "start 0; 0"}, {"start 0; 0* a>0", []int{0}, "start 0; 0* a>0"}, {"start 0; 0 a>1; 1 b>2; 2*", []int{0, 1, 2}, "start 0; 0 a>1; 1 b>2; 2*"},
		{"start 0; 0* a>1; 1* a>1", []int{0, 0}, "start 0; 0* a>0"}, {"start 0; 0* a>1 b>2; 1* a>1 b>2; 2* a>1 b>2", []int{0, 0, 0}, "start 0; 0* a>0 b>0"}, {"start 0; 0 a>1 b>2; 1*; 2*", []int{0, 1, 1}, "start 0; 0 a>1 b>1; 1*"}, {"start 0; 0* a>1; 1 b>2; 2* a>1", []int{0, 1, 0}, "start 0; 0* a>1; 1 b>0"},
		// States that differ after the empty word, after one letter, after two, and in one letter only.
		{"start 0; 0 a>1; 1* a>0", []int{0, 1}, "start 0; 0 a>1; 1* a>0"}, {"start 0; 0 a>1 b>2; 1 c>3; 2 c->3; 3*", []int{0, 1, 2, 3}, "start 0; 0 a>1 b>2; 1 c>3; 2 c->3; 3*"}, {"start 0; 0 a>1 b>2; 1 a>3; 2 a>4; 3 b>5; 4 c>5; 5*", []int{0, 1, 2, 3, 4, 5}, "start 0; 0 a>1 b>2; 1 a>3; 2 a>4; 3 b>5; 4 c>5; 5*"}, {"start 0; 0 a>1 b>2; 1 a>3; 2 a>4; 3 b>5; 4 b>5; 5*", []int{0, 1, 1, 2, 2, 3}, "start 0; 0 a>1 b>1; 1 a>2; 2 b>3; 3*"},
		{"start 0; 0 a>1 b>2; 1* a>1 2>0; 2* a>1", []int{0, 1, 2}, "start 0; 0 a>1 b>2; 1* a>1 2>0; 2* a>1"}, {"start 0; 0 a>1 b>2; 1* a>1 2>0; 2* a>2 2>0", []int{0, 1, 1}, "start 0; 0 a>1 b>1; 1* a>1 2>0"},
		// No transition is the same as one to a dead state.
		{"start 0; 0* a>1; 1", []int{0, -1}, "start 0; 0*"}, {"start 0; 0 a>1 b>2; 1* c>3; 2*; 3 a>3", []int{0, 1, 1, -1}, "start 0; 0 a>1 b>1; 1*"}, {"start 0; 0 a>1 b>2; 1* c>3 a>1; 2* a>2; 3 a>3", []int{0, 1, 1, -1}, "start 0; 0 a>1 b>1; 1* a>1"},
		// The edge case: two dead states, which are reached, or not, or one of them, or one of them is the start.
		{"start 0; 0; 1", []int{-1, -1}, "start 0; 0"}, {"start 1; 0; 1 a>0", []int{-1, -1}, "start 0; 0"}, {"start 0; 0 a>1; 1 a>0", []int{-1, -1}, "start 0; 0"}, {"start 0; 0 a>1; 1 b>1", []int{-1, -1}, "start 0; 0"}, {"start 2; 0; 1; 2* a>0 b>1", []int{-1, -1, 0}, "start 0; 0*"}, {"start 0; 0* a>1 b>2; 1; 2 a>2", []int{0, -1, -1}, "start 0; 0*"}, {"start 0; 0* a>1; 1 b>2; 2", []int{0, -1, -1}, "start 0; 0*"}, {"start 0; 0* a>0; 1 a>2; 2", []int{0, -1, -1}, "start 0; 0* a>0"}, {"start 0; 0* a>0 b>2; 1 a>2; 2", []int{0, -1, -1}, "start 0; 0* a>0"},
		{"start 1; 0*; 1 a>2; 2", []int{0, -1, -1}, "start 0; 0"}, {"start 2; 0; 1*; 2", []int{-1, 0, -1}, "start 0; 0"}, {"start 2; 0 a>2; 1* a>0 b>2 c>1; 2 a>0", []int{-1, 0, -1}, "start 0; 0"}, {"start 0; 0 b>2; 1* b>0; 2", []int{-1, 0, -1}, "start 0; 0"}, {"start 3; 0 a>1; 1 a>0; 2*; 3 a>0 b>2", []int{-1, -1, 0, 1}, "start 0; 0 b>1; 1*"}, {"start 3; 0 a>1; 1 a>0; 2* b>1; 3 a>0 b>2", []int{-1, -1, 0, 1}, "start 0; 0 b>1; 1*"},
		// The classes are numbered in the order of their first states, also after a dead one.
		{"start 2; 0; 1*; 2 a>1", []int{-1, 0, 1}, "start 0; 0 a>1; 1*"}, {"start 1; 0; 1 a>2; 2*", []int{-1, 0, 1}, "start 0; 0 a>1; 1*"}, {"start 4; 0; 1*; 2; 3 a>1; 4 b>3 a>5; 5*", []int{-1, 0, -1, 1, 2, 0}, "start 0; 0 a>1 b>2; 1*; 2 a>1"}, {"start 3; 0 c>0; 1 a>2; 2*; 3 b>4; 4 a>5; 5*; 6 b>1", []int{-1, 0, 1, 2, 0, 1, 2}, "start 0; 0 b>1; 1 a>2; 2*"}, {"start 4; 0*; 1 a>0; 2 a>0; 3*; 4 b>2 c>1 0>3", []int{0, 1, 1, 0, 2}, "start 0; 0 b>1 c>1 0>2; 1 a>2; 2*"}, {"start 2; 0* a>1; 1 a>0; 2 a>3; 3* a>2", []int{0, 1, 1, 0}, "start 0; 0 a>1; 1* a>0"},
		// All states are in one class.
		{"start 1; 0* a>1; 1* a>0", []int{0, 0}, "start 0; 0* a>0"}, {"start 2; 0*; 1*; 2*", []int{0, 0, 0}, "start 0; 0*"}, {"start 1; 0* a>1 b>0; 1* a>2 b>2; 2* a>0 b>1", []int{0, 0, 0}, "start 0; 0* a>0 b>0"},
		// States that are not reached, with or without one of the same class that is.
		{"start 1; 0*; 1*", []int{0, 0}, "start 0; 0*"}, {"start 0; 0 b>1; 1*; 2*", []int{0, 1, 1}, "start 0; 0 b>1; 1*"}, {"start 1; 0 b>2; 1 b>2; 2*", []int{0, 0, 1}, "start 0; 0 b>1; 1*"}, {"start 2; 0 b>1; 1*; 2 b>3; 3*", []int{0, 1, 0, 1}, "start 0; 0 b>1; 1*"}, {"start 2; 0 a>3; 1 b>0; 2 a>3; 3* b>2", []int{0, 1, 0, 2}, "start 0; 0 a>1; 1* b>0"}, {"start 1; 0* a>0; 1*; 2 c>0", []int{0, 1, 2}, "start 0; 0*"},
		// A state that shares the class with one before, but is found first.
		{"start 0; 0 a>3 b>1; 1 c>2; 2*; 3 c>4; 4*", []int{0, 1, 2, 1, 2}, "start 0; 0 a>1 b>1; 1 c>2; 2*"}, {"start 0; 0 a>4 b>1; 1 a>2; 2*; 3 b>2; 4 a>3", []int{0, 1, 2, 3, 4}, "start 0; 0 a>1 b>2; 1 a>3; 2 a>4; 3 b>4; 4*"},
	} {
		a, want := automatonOf(t, c.a), automatonOf(t, c.want)
		checkClasses(t, a, c.classes)
		checkMinimized(t, a, want)
		checkMinimized(t, want, want)
		checkIsMinimal(t, a, sameAutomaton(a, want))
		checkIsMinimal(t, want, true)
	}
}

// upTo returns the numbers from 0 to n-1.
func upTo(n int) []int {
	var list []int
	for i := range n {
		list = append(list, i)
	}
	return list
}

func TestMinimizationOfMostStates(t *testing.T) {
	for _, states := range []int{2, 5, 11, 12} {
		for _, letter := range []int{0, 7, 8} {
			a := ring(states, letter)
			checkClasses(t, a, upTo(states))
			checkMinimized(t, a, a)
			checkIsMinimal(t, a, true)
			a.Start = states / 2
			checkClasses(t, a, upTo(states))
			checkIsMinimal(t, a, false)
			// A ring of which all states accept is one state.
			a = changed(a, func(a *impl.Automaton) { a.Accept = slices.Repeat([]bool{true}, states) })
			one := withStates(1)
			one.Accept[0], one.Next[0][letter] = true, 0
			checkClasses(t, a, make([]int, states))
			checkMinimized(t, a, one)
			// Without an accepting state all states are dead.
			a = changed(a, func(a *impl.Automaton) { a.Accept = make([]bool, states) })
			checkClasses(t, a, slices.Repeat([]int{-1}, states))
			checkMinimized(t, a, withStates(1))
		}
		a := full(states)
		checkClasses(t, a, make([]int, states))
		checkMinimized(t, a, full(1))
		a.Accept[states-1] = false
		checkClasses(t, a, wantedClasses(a))
		checkMinimized(t, a, wantedMinimal(a))
		checkClasses(t, withStates(states), slices.Repeat([]int{-1}, states))
		checkMinimized(t, withStates(states), withStates(1))
	}
	// The states of a ring with two or more accepting states are in as many classes as it takes to come to the next one.
	for _, step := range []int{2, 3, 4, 6} {
		a, want := ring(12, 3), ring(step, 3)
		var classes []int
		for state := range a.Accept {
			a.Accept[state] = state%step == step-1
			classes = append(classes, state%step)
		}
		checkClasses(t, a, classes)
		checkMinimized(t, a, want)
		a.Start = 2 * step % 12
		checkMinimized(t, a, want)
		a.Start = 12 - step
		checkMinimized(t, a, want)
	}
	chain := automatonOf(t, "start 11; 0*; 1 a>0; 2 a>1; 3 a>2; 4 a>3; 5 a>4; 6 a>5; 7 a>6; 8 a>7; 9 a>8; 10 a>9; 11 a>10")
	checkClasses(t, chain, upTo(12))
	checkMinimized(t, chain, automatonOf(t, "start 0; 0 a>1; 1 a>2; 2 a>3; 3 a>4; 4 a>5; 5 a>6; 6 a>7; 7 a>8; 8 a>9; 9 a>10; 10 a>11; 11*"))
	dead := automatonOf(t, "start 2; 0; 1 b>11; 2 a>3; 3 a>4; 4 a>5; 5 a>6; 6 a>7; 7 a>8; 8 a>9; 9 a>10; 10* a>0 b>1; 11")
	checkClasses(t, dead, []int{-1, -1, 0, 1, 2, 3, 4, 5, 6, 7, 8, -1})
	checkMinimized(t, dead, automatonOf(t, "start 0; 0 a>1; 1 a>2; 2 a>3; 3 a>4; 4 a>5; 5 a>6; 6 a>7; 7 a>8; 8*"))
}

// acceptedFrom reports whether the word leads from the state to an accepting one.
func acceptedFrom(a impl.Automaton, state int, word []int) bool {
	end := wantedRun(a, state, word)
	return end >= 0 && a.Accept[end]
}

// The classes of so small automata can be told from all words of at most three letters.
func TestClassesOfSmallAutomata(t *testing.T) {
	eachSmallAutomaton(func(a impl.Automaton) {
		var accepted []string
		for state := range a.Accept {
			words := ""
			eachList([]int{1, 8}, 3, func(word []int) {
				if acceptedFrom(a, state, word) {
					words += spelled(word) + ","
				}
			})
			accepted = append(accepted, words)
		}
		classes := impl.StateClasses(a)
		if len(classes) != len(a.Accept) {
			t.Fatalf("StateClasses(%v) = %v", a, classes)
		}
		next := 0
		for s, class := range classes {
			if class == next {
				next++
			}
			if class < -1 || class >= next || (class == -1) != (accepted[s] == "") {
				t.Fatalf("StateClasses(%v) = %v", a, classes)
			}
			for u := range classes {
				if (class == classes[u]) != (accepted[s] == accepted[u]) {
					t.Fatalf("StateClasses(%v) = %v, but the words are %q", a, classes, accepted)
				}
			}
		}
	})
}

// checkMinimization checks all functions with a valid automaton, and that minimizing changes nothing more if it is done again, and no accepted word.
func checkMinimization(t *testing.T, a impl.Automaton, letters []int, length int) impl.Automaton {
	t.Helper()
	want := wantedMinimal(a)
	checkClasses(t, a, wantedClasses(a))
	checkMinimized(t, a, want)
	checkIsMinimal(t, a, sameAutomaton(a, want))
	checkMinimized(t, want, want)
	checkIsMinimal(t, want, true)
	checkMinimized(t, impl.TrimAutomaton(a), want)
	checkTrimmed(t, want, want)
	eachList(letters, length, func(word []int) {
		if impl.AcceptsWord(want, word) != impl.AcceptsWord(a, word) {
			t.Fatalf("%v is minimized to %v, which differs for %v", a, want, word)
		}
	})
	return want
}

func TestMinimizeSmallAutomata(t *testing.T) {
	eachSmallAutomaton(func(a impl.Automaton) { checkMinimization(t, a, []int{1, 8}, 3) })
}

// doubled returns an automaton in which states occur twice, with random numbers, and the transitions lead to either.
func doubled(r *rand.Rand, a impl.Automaton, states int) impl.Automaton {
	origin := slices.Concat(upTo(len(a.Accept)), make([]int, states-len(a.Accept)))
	for i := len(a.Accept); i < states; i++ {
		origin[i] = r.Intn(len(a.Accept))
	}
	r.Shuffle(states, func(i int, j int) { origin[i], origin[j] = origin[j], origin[i] })
	copyOf := func(state int) int {
		for {
			if i := r.Intn(states); origin[i] == state {
				return i
			}
		}
	}
	out := withStates(states)
	out.Start = copyOf(a.Start)
	for state := range out.Accept {
		out.Accept[state] = a.Accept[origin[state]]
		for letter, next := range a.Next[origin[state]] {
			if next >= 0 {
				out.Next[state][letter] = copyOf(next)
			}
		}
	}
	return out
}

func TestMinimizeAutomata(t *testing.T) {
	fewer, same := 0, 0
	check := func(a impl.Automaton) {
		minimal := checkMinimization(t, a, []int{0, 4, 8}, 3)
		if len(minimal.Accept) < len(impl.UsefulStates(a)) {
			fewer++
		} else {
			same++
		}
	}
	for _, a := range validAutomata(t) {
		check(a)
	}
	r := rand.New(rand.NewSource(12))
	for range 1000 {
		check(doubled(r, randomAutomaton(r, 1+r.Intn(6), 1+r.Intn(3), 1+r.Float64()), 6+r.Intn(7)))
	}
	if fewer < 200 || same < 200 {
		t.Errorf("%d automata have states to merge, and %d have none", fewer, same)
	}
	for range 1000 {
		check(randomAutomaton(r, 6+r.Intn(7), 3, 1+2*r.Float64()))
	}
}

// exchanged returns the automaton with the numbers of two states exchanged.
func exchanged(a impl.Automaton, s int, t int) impl.Automaton {
	other := func(state int) int {
		switch state {
		case s:
			return t
		case t:
			return s
		}
		return state
	}
	out := withStates(len(a.Accept))
	out.Start = other(a.Start)
	for state, row := range a.Next {
		out.Accept[other(state)] = a.Accept[state]
		for letter, next := range row {
			out.Next[other(state)][letter] = other(next)
		}
	}
	return out
}

// withState returns the automaton with one more state, which has this row.
func withState(a impl.Automaton, accepts bool, row []int) impl.Automaton {
	a = cloneAutomaton(a)
	a.Accept, a.Next = append(a.Accept, accepts), append(a.Next, row)
	return a
}

func minimalAutomata(t *testing.T) []impl.Automaton {
	list := []impl.Automaton{ring(11, 0), ring(12, 8)}
	for _, s := range []string{"start 0; 0", "start 0; 0*", "start 0; 0* a>0", "start 0; 0 a>1; 1*", "start 0; 0 a>1; 1 b>2; 2*", "start 0; 0* a>1; 1 b>0", "start 0; 0 a>1 b>2; 1 a>3; 2 a>4; 3 b>4; 4*"} {
		list = append(list, automatonOf(t, s))
	}
	r := rand.New(rand.NewSource(1212))
	for range 100 {
		list = append(list, wantedMinimal(randomAutomaton(r, 1+r.Intn(12), 1+r.Intn(3), 1+2*r.Float64())))
	}
	return list
}

// An automaton is not minimal if it only has other numbers, or one more state, than the minimal one.
func TestIsMinimal(t *testing.T) {
	check := func(a impl.Automaton, minimal impl.Automaton) {
		if !impl.IsValidAutomaton(a) {
			t.Fatalf("%v is not valid", a)
		}
		checkIsMinimal(t, a, false)
		checkMinimized(t, a, minimal)
	}
	for _, minimal := range minimalAutomata(t) {
		checkIsMinimal(t, minimal, true)
		checkIsMinimal(t, cloneAutomaton(minimal), true)
		states := len(minimal.Accept)
		for s := range states {
			for u := range s {
				check(exchanged(minimal, s, u), minimal)
			}
		}
		if states == 12 {
			continue
		}
		// A state that is not reached: a dead one, one that accepts, and one that is equal to the start.
		check(withState(minimal, false, emptyRow()), minimal)
		check(withState(minimal, true, slices.Repeat([]int{states}, 9)), minimal)
		check(withState(minimal, minimal.Accept[0], slices.Clone(minimal.Next[0])), minimal)
		// A state that is reached, but dead.
		for place := range states * 9 {
			if minimal.Next[place/9][place%9] < 0 {
				for _, row := range [][]int{emptyRow(), slices.Repeat([]int{states}, 9)} {
					a := withState(minimal, false, row)
					a.Next[place/9][place%9] = states
					check(a, minimal)
				}
			}
		}
	}
	// Minimal but for the start, or for the missing states, or for one that accepts nothing.
	for _, s := range []string{"start 1; 0*; 1", "start 1; 0; 1*", "start 0; 0 a>0", "start 0; 0; 1*", "start 0; 0 a>2; 1*; 2 b>1", "start 0; 0 b>1 a>2; 1*; 2 a>1", "start 0; 0 a>1; 1* a>2; 2* a>1"} {
		checkIsMinimal(t, automatonOf(t, s), false)
	}
}

func TestDistinguishingWord(t *testing.T) {
	for _, c := range []struct {
		a    string
		x, y int
		want string
	}{
		// The empty word is the least, whatever other words there are.
		{"start 0; 0; 1*", 0, 1, "()"}, {"start 0; 0 a>1; 1* b>0", 0, 1, "()"}, {"start 0; 0; 1 a>2; 2* b>1", 0, 2, "()"}, {"start 0; 0 a>1; 1*; 2 a>1", 1, 2, "()"},
		{"start 0; 0 a>1; 1 b>2; 2*", 0, 1, "b"}, {"start 0; 0 b>2; 1 a>2; 2*", 0, 1, "a"}, {"start 0; 0 a>2 b>2; 1 a>2; 2*", 0, 1, "b"}, {"start 0; 0* a>1; 1* b>0", 0, 1, "a"}, {"start 0; 0* a>1; 1* a>2; 2* a>2 b>0", 0, 1, "a b"}, {"start 0; 0* a>1 b>2; 1* b>0; 2*", 0, 1, "a"}, {"start 0; 0* 2>2; 1* 2>3; 2; 3*", 0, 1, "2"},
		// One of the states is dead, or both lead to a dead one.
		{"start 0; 0; 1 c>2; 2*", 0, 1, "c"}, {"start 0; 0 c>0; 1 c>2; 2 0>3; 3*", 0, 1, "c 0"}, {"start 0; 0 a>2 b>3; 1 a>0 b>2; 2; 3*", 0, 1, "b"}, {"start 0; 0 a>2; 1; 2 b>3; 3* b>1", 0, 1, "a b"}, {"start 0; 0 a>1; 1 a>0; 2 a>0 b>1 c>3; 3*", 0, 2, "c"},
		// Several words of the same length: the least is not always that of the state which is found first or has the least number.
		{"start 0; 0 2>2 b>2 a->2; 1; 2*", 0, 1, "a-"}, {"start 0; 0 a>2 b>3; 1; 2 c>4; 3 a>4; 4*", 0, 1, "a c"}, {"start 0; 0 a>3 b>2; 1; 2 a>4; 3 c>4; 4*", 0, 1, "a c"}, {"start 0; 0 a>3; 1 b>2; 2 a>4; 3 2>4; 4*", 0, 1, "a 2"}, {"start 0; 0 b>3; 1 a>2; 2 2>4; 3 a>4; 4*", 0, 1, "a 2"}, {"start 0; 0 a>2 a->2 b>3; 1 a>3 a->4 b>2; 2 c>5; 3 c>5; 4 b>5; 5*", 0, 1, "a- b"}, {"start 0; 0 a>2 b>3; 1; 2 a>4 b>5; 3 a>6; 4 2>7; 5 a>7; 6 a>7; 7*", 0, 1, "a a 2"},
		// A shorter word is less than any longer one.
		{"start 0; 0 a>2 2>3; 1; 2 a>3; 3*", 0, 1, "2"}, {"start 0; 0 a>2 2>4; 1; 2 a>3; 3 a>5; 4 2>5; 5*", 0, 1, "2 2"}, {"start 0; 0* a>0 b>3; 1* a>2 b>3; 2 a>2; 3*", 0, 1, "a"},
		// Accepting states that both reach do not tell them apart.
		{"start 0; 0 a>2 b>2; 1 a>3 b>3; 2* c>4; 3* 0>4; 4*", 0, 1, "a c"}, {"start 0; 0 a>1; 1 a>2; 2 a>3; 3* a>3", 0, 1, "a a"}, {"start 0; 0 a>1; 1 a>2; 2 a>0; 3* b>0", 3, 0, "()"},
	} {
		a := automatonOf(t, c.a)
		checkDistinguished(t, a, c.x, c.y, wordFrom(t, c.want), true)
		checkDistinguished(t, a, c.y, c.x, wordFrom(t, c.want), true)
		checkDistinguished(t, a, c.x, c.x, nil, false)
		checkDistinguished(t, a, c.y, c.y, nil, false)
		// Where the automaton starts makes no difference.
		for start := range a.Accept {
			a.Start = start
			checkDistinguished(t, a, c.x, c.y, wordFrom(t, c.want), true)
		}
	}
}

// Without a word that distinguishes the states there is no result, even where the states lead to other ones.
func TestDistinguishingWordOfEqualStates(t *testing.T) {
	for _, s := range []string{"start 0; 0; 1", "start 0; 0*; 1*", "start 0; 0* a>1; 1* a>0", "start 0; 0 a>2; 1 a>3; 2*; 3*", "start 0; 0 a>1; 1 b>0", "start 0; 0 a>2; 1 a>3; 2* b>0; 3* b>1", "start 0; 0* a>2; 1* a>3 b>3; 2; 3 c>3"} {
		checkDistinguished(t, automatonOf(t, s), 0, 1, nil, false)
		checkDistinguished(t, automatonOf(t, s), 1, 0, nil, false)
	}
	for x := range 12 {
		for y := range 12 {
			checkDistinguished(t, full(12), x, y, nil, false)
			checkDistinguished(t, withStates(12), x, y, nil, false)
		}
		checkDistinguished(t, ring(12, 4), x, x, nil, false)
	}
}

func TestDistinguishingWordOfNoState(t *testing.T) {
	for _, a := range append(minimalAutomata(t), withStates(3), full(12), automatonOf(t, "start 0; 0*"), automatonOf(t, "start 1; 0; 1*; 2 a>1")) {
		states := len(a.Accept)
		for _, none := range []int{-1, -2, states, states + 1, 13, 100, 1 << 32, -1 << 32, math.MaxInt, math.MinInt} {
			for state := range states {
				checkDistinguished(t, a, none, state, nil, false)
				checkDistinguished(t, a, state, none, nil, false)
			}
			for _, other := range []int{none, -1, states, math.MaxInt} {
				checkDistinguished(t, a, none, other, nil, false)
			}
		}
	}
}

// A word that distinguishes states may have more letters than a word of chapter 2.
func TestLongDistinguishingWords(t *testing.T) {
	for _, letter := range []int{0, 8} {
		a := ring(12, letter)
		for x := range 12 {
			for y := range x {
				checkDistinguished(t, a, x, y, slices.Repeat([]int{letter}, 11-x), true)
				checkDistinguished(t, a, y, x, slices.Repeat([]int{letter}, 11-x), true)
			}
		}
	}
	// A dead state differs from the first state of a chain only when the chain ends.
	a := automatonOf(t, "start 0; 0 a>1; 1 b>2; 2 c>3; 3 a>4; 4 b>5; 5 c>6; 6 a>7; 7 b>8; 8 c>9; 9 a>10; 10*; 11 a>11")
	checkDistinguished(t, a, 0, 11, wordFrom(t, "a b c a b c a b c a"), true)
	checkDistinguished(t, a, 11, 1, wordFrom(t, "b c a b c a b c a"), true)
	checkDistinguished(t, a, 11, 2, wordFrom(t, "c a b c a b c a"), true)
}

func checkDifferences(t *testing.T, a impl.Automaton) {
	t.Helper()
	words, classes := leastDifferences(a), impl.StateClasses(a)
	for x := range a.Accept {
		for y := range a.Accept {
			word, differ := words(x, y)
			checkDistinguished(t, a, x, y, word, differ)
			if differ == (classes[x] == classes[y]) || acceptedFrom(a, x, word) == acceptedFrom(a, y, word) == differ {
				t.Fatalf("%v: the states %d and %d differ: %v, with the classes %v and the word %v", a, x, y, differ, classes, word)
			}
		}
	}
}

func TestDistinguishingWordsOfAutomata(t *testing.T) {
	eachSmallAutomaton(func(a impl.Automaton) { checkDifferences(t, a) })
	for _, a := range validAutomata(t) {
		checkDifferences(t, a)
	}
	r := rand.New(rand.NewSource(122))
	for range 300 {
		checkDifferences(t, randomAutomaton(r, 6+r.Intn(7), 3, 1+r.Float64()))
		checkDifferences(t, doubled(r, randomAutomaton(r, 2+r.Intn(6), 2, 1+r.Float64()), 8+r.Intn(5)))
	}
}

func TestCompileExpr(t *testing.T) {
	for _, c := range [][2]string{
		// Without letters or without words.
		{"!", "start 0; 0"}, {"()", "start 0; 0*"}, {"! *", "start 0; 0*"}, {"() {2,3}", "start 0; 0*"}, {"! {1,3}", "start 0; 0"}, {"! {0,3}", "start 0; 0*"}, {"! () .", "start 0; 0"}, {"! () |", "start 0; 0*"},
		{"a ! .", "start 0; 0"}, {"! a .", "start 0; 0"}, {"a b | * ! .", "start 0; 0"}, {"a ! . *", "start 0; 0*"}, {"a ! . b |", "start 0; 0 b>1; 1*"}, {"a b . ! . c * |", "start 0; 0* c>0"}, {"a ! . b . a b c . . |", "start 0; 0 a>1; 1 b>2; 2 c>3; 3*"},
		{"a", "start 0; 0 a>1; 1*"}, {"2", "start 0; 0 2>1; 1*"}, {"a b .", "start 0; 0 a>1; 1 b>2; 2*"}, {"a b |", "start 0; 0 a>1 b>1; 1*"}, {"a *", "start 0; 0* a>0"}, {"a {0,2}", "start 0; 0* a>1; 1* a>2; 2*"}, {"a {2,3}", "start 0; 0 a>1; 1 a>2; 2* a>3; 3*"}, {"a a |", "start 0; 0 a>1; 1*"},
		// The set of the initial state is merged with others, and sets that accept the same are one state.
		{"a b . *", "start 0; 0* a>1; 1 b>0"}, {"a b | *", "start 0; 0* a>0 b>0"}, {"a b | * a .", "start 0; 0 a>1 b>0; 1* a>1 b>0"}, {"a b | * a . b .", "start 0; 0 a>1 b>0; 1 a>1 b>2; 2* a>1 b>0"}, {"a b | * a . a b | .", "start 0; 0 a>1 b>0; 1 a>2 b>3; 2* a>2 b>3; 3* a>1 b>0"}, {"a c . b c . |", "start 0; 0 a>1 b>1; 1 c>2; 2*"}, {"a * b * .", "start 0; 0* a>0 b>1; 1* b>1"}, {"a b . * a .", "start 0; 0 a>1; 1* b>0"},
		// The letters ascend, whatever the order of the positions is.
		{"b a . c c . | a b . |", "start 0; 0 a>1 b>2 c>3; 1 b>4; 2 a>4; 3 c>4; 4*"}, {"2 c- | a | 0 |", "start 0; 0 a>1 c->1 0>1 2>1; 1*"}, {"a a- | b | b- | c | c- | 0 | 1 | 2 | *", "start 0; 0* a>0 a->0 b>0 b->0 c>0 c->0 0>0 1>0 2>0"}, {"0 a . 1 . a- . 2 .", "start 0; 0 0>1; 1 a>2; 2 1>3; 3 a->4; 4 2>5; 5*"},
	} {
		checkCompiled(t, exprOf(t, c[0]), c[1])
	}
}

func TestCompileInvalid(t *testing.T) {
	for _, e := range noExprs(t) {
		checkCompiled(t, e, "")
	}
	checkCompiled(t, impl.Expr{}, "")
	checkCompiled(t, impl.Expr{Tokens: []impl.Token{}}, "")
	for _, tokens := range []int{25, 26, 400, 401} {
		for _, e := range exprsOfLength(t, tokens) {
			checkCompiled(t, e, "")
		}
	}
	checkCompiled(t, exprsOfLength(t, 24)[0], "start 0; 0* a>0")
}

// Each of these limits counts before the automaton does: the languages have small automata, also where there is one position or token too many.
func TestCompileOfMostPositions(t *testing.T) {
	for _, c := range [][2]string{
		// 20 and 21 positions, and more.
		{"a * {3,3} {3,3} {2,2} a * {2,2} .", "start 0; 0* a>0"}, {"a * {3,3} {3,3} {2,2} a * {3,3} .", ""}, {"a * {3,3} {3,3} {3,3}", ""},
		{"a a | {3,3} {3,3} ! . c | b |", "start 0; 0 b>1 c>1; 1*"}, {"a a | {3,3} {3,3} ! . c | b | () |", "start 0; 0* b>1 c>1; 1*"}, {"a a | {3,3} {3,3} ! . c | b | b |", ""}, {"a a | {3,3} {3,3} ! . c | b | a ! . |", ""},
		// 399, 400 and 401 tokens, and more.
		{"! {1,3} {1,3} {1,3} {2,3}", "start 0; 0"}, {"! {1,3} {1,3} {1,3} {2,3} *", "start 0; 0*"}, {"! {1,3} {1,3} {1,3} {1,3}", ""}, {"() {1,3} {1,3} {1,3} {1,3}", ""}, {"() {3,3} {3,3} {3,3} {3,3} {3,3} {3,3}", ""}, {"a {1,3} {1,3} {1,3} {1,3} *", ""},
	} {
		checkCompiled(t, exprOf(t, c[0]), c[1])
		if _, ok := impl.BuildPositions(exprOf(t, c[0])); ok != (c[1] != "") {
			t.Fatalf("BuildPositions of %q returns %v", c[0], ok)
		}
	}
}

// wantedCompiled goes from at most 200 state sets to the minimal automaton.
func wantedCompiled(p impl.Positions) (impl.Automaton, bool) {
	a, ok := wantedDeterminized(p, 200)
	if !ok {
		return impl.Automaton{}, false
	}
	a = wantedMinimal(a)
	if len(a.Accept) > 12 {
		return impl.Automaton{}, false
	}
	return a, true
}

// checkCompiling checks any expression, and that what it is compiled to is minimal.
func checkCompiling(t *testing.T, e impl.Expr) (impl.Automaton, bool) {
	t.Helper()
	want, wantOk := impl.Automaton{}, false
	if p, built := impl.BuildPositions(e); built {
		want, wantOk = wantedCompiled(p)
	}
	a, ok := impl.CompileExpr(e)
	if ok != wantOk || !sameAutomaton(a, want) {
		t.Fatalf("CompileExpr(%v) = %v, %v; want %v, %v", e, a, ok, want, wantOk)
	}
	if ok {
		checkIsMinimal(t, a, true)
	}
	return a, ok
}

func TestCompileOfMostStates(t *testing.T) {
	for _, c := range []struct {
		e            string
		sets, states int
	}{
		{"a {3,3} {3,3} a .", 11, 11}, {"a {3,3} {3,3} a {2,2} .", 12, 12}, {"a {3,3} {3,3} a {3,3} .", 13, 13}, {"a {0,3} {3,3} a {0,2} .", 12, 12}, {"a {0,3} {3,3} a {0,3} .", 13, 13}, {"a {3,3} {3,3} a {3,3} . a .", 14, 14},
		{"a {3,3} {3,3} a {2,2} . *", 12, 11}, {"a {3,3} {2,2} {2,2} *", 13, 12}, {"a {3,3} {2,2} {2,2} a . *", 14, 13}, {"a {3,3} {3,3} a {3,3} . ! .", 13, 1}, {"a {3,3} {3,3} {2,2} a {2,2} . ! .", 21, 1},
		// More state sets than states are possible, but not more states in the minimal automaton.
		{"a b | {3,3} {3,3}", 19, 10}, {"a b | {3,3} {3,3} c .", 20, 11}, {"a b | {3,3} {3,3} c {2,2} .", 21, 12}, {"a b | {3,3} {2,2} c {3,3} {2,2} .", 19, 13}, {"a b | {3,3} {2,2} c {2,2} {2,2} c . .", 18, 12}, {"a b | {3,3} {3,3} *", 19, 9},
		{"a b | * a . a b | {2,2} .", 9, 8}, {"a b | * a . a b | {3,3} .", 17, 16}, {"a b | * a . a b | {2,2} {2,2} .", 33, 32}, {"a b | * a a b | {2,2} {2,2} . {0,1} .", 33, 1}, {"a b | * a a b | {3,3} {2,2} . {0,1} .", 129, 1},
		// Exactly 200 state sets, and one more.
		{"a b | * a . a b | {2,2} {3,3} . a * | a * . a b | * |", 200, 1}, {"a b | * a . a b | {2,2} {3,3} . a * | a * . ! .", 200, 1}, {"a b | * a a b | {2,2} {1,2} . a b | {2,2} {2,2} . {0,1} .", 201, 1}, {"a b | * a . a b | {2,2} {1,2} . a b | {2,2} {2,2} . ! .", 201, 1}, {"a b | * a a b | {2,3} {2,2} . a b . . a b | * . {0,1} .", 201, 1},
		// Many more.
		{"a b | * a a b | {3,3} {2,2} . a b | . {0,1} .", 257, 1}, {"a b | * a . a b | {3,3} {2,2} a b | . . ! .", 257, 1}, {"a b | * a a b | {2,2} {2,2} {2,2} . {0,1} .", 513, 1},
	} {
		e := exprOf(t, c.e)
		p, _ := impl.BuildPositions(e)
		sets, ok := wantedDeterminized(p, 1000)
		if !ok || len(sets.Accept) != c.sets {
			t.Fatalf("%q has %d state sets; want %d", c.e, len(sets.Accept), c.sets)
		}
		if minimal := wantedMinimal(sets); len(minimal.Accept) != c.states {
			t.Fatalf("%q has a minimal automaton of %d states; want %d", c.e, len(minimal.Accept), c.states)
		}
		a, ok := checkCompiling(t, e)
		if ok != (c.sets <= 200 && c.states <= 12) || len(a.Accept) != c.states && ok {
			t.Fatalf("CompileExpr of %q = %v, %v", c.e, a, ok)
		}
	}
	checkCompiled(t, exprOf(t, "a {3,3} {2,2} {2,2} *"), "start 0; 0* a>1; 1 a>2; 2 a>3; 3 a>4; 4 a>5; 5 a>6; 6 a>7; 7 a>8; 8 a>9; 9 a>10; 10 a>11; 11 a>0")
	checkCompiled(t, exprOf(t, "a b | {3,3} {3,3} c {2,2} ."), "start 0; 0 a>1 b>1; 1 a>2 b>2; 2 a>3 b>3; 3 a>4 b>4; 4 a>5 b>5; 5 a>6 b>6; 6 a>7 b>7; 7 a>8 b>8; 8 a>9 b>9; 9 c>10; 10 c>11; 11*")
	checkCompiled(t, exprOf(t, "a b | * a . a b | {2,2} {3,3} . a * | a * . a b | * |"), "start 0; 0* a>0 b>0")
}

// The automaton accepts the language of the expression, and nothing else.
func TestCompileKeepsLanguage(t *testing.T) {
	r := rand.New(rand.NewSource(1200))
	accepted, compiled := 0, 0
	eachPositionsExpr(t, func(e impl.Expr) {
		a, ok := checkCompiling(t, e)
		if !ok {
			return
		}
		compiled++
		words := wordsNear(r, randomWordOf(r, e))
		eachList([]int{0, 2, 3, 7}, 2, func(word []int) { words = append(words, word) })
		for _, word := range words {
			if len(word) > 8 {
				continue
			}
			want := impl.MatchesWord(e, word)
			if impl.AcceptsWord(a, word) != want {
				t.Fatalf("the automaton %v of %v: AcceptsWord(%v) = %v", a, e, word, !want)
			}
			if want {
				accepted++
			}
		}
	})
	if accepted < 10000 || compiled < 3000 {
		t.Errorf("only %d words are accepted by %d automata", accepted, compiled)
	}
}

func checkSameCompiled(t *testing.T, e impl.Expr, f impl.Expr, want bool) {
	t.Helper()
	a, ok := impl.CompileExpr(e)
	b, also := impl.CompileExpr(f)
	if !ok || !also || impl.EqualAutomata(a, b) != want {
		t.Fatalf("CompileExpr(%v) = %v, %v, and CompileExpr(%v) = %v, %v; want equal ones: %v", e, a, ok, f, b, also, want)
	}
}

// sameLanguages are lists of expressions that have the same language, each list a different one.
var sameLanguages = [][]string{
	{"!", "! a .", "a ! .", "! ! |", "a b . ! .", "! {1,1}", "! * ! .", "a * ! .", "a ! . {2,3}"},
	{"()", "! *", "() *", "() () .", "() () |", "! {0,1}", "() {2,3}", "a ! . *", "! () |", "a ! . () |", "a * ! . {0,2}"},
	{"a", "a a |", "() a .", "a () .", "a {1,1}", "! a |", "a ! |", "a b ! . |", "a ! {0,1} ."},
	{"a *", "a * *", "a a | *", "a * a * .", "a * {2,3}", "a {0,3} *", "a {1,2} *", "a a * . () |", "() a * a . |", "a {2,3} * a {0,1} .", "a a . * a () | .", "a {0,3} a * ."},
	{"a a * .", "a * a .", "a a * a * . .", "a * {1,3} a .", "a {1,2} {1,1} a * ."},
	{"a b | *", "b a | *", "a * b * . *", "a * b | *", "a * b a * . * .", "a b * . * b * . a b | * |", "a b | b | * *", "a b | {1,3} *", "b a b | * . a b | * | *", "a b | a b | . * a b | {0,1} ."},
	{"a b . * a .", "a b a . * .", "a b . * a . a |"}, {"a b | c .", "a c . b c . |", "b c . a c . |", "b a | c () . ."}, {"a b c . .", "a b . c ."}, {"a b c | .", "a b . a c . |", "a c b | ."},
	{"a {0,2}", "a a . a | () |", "a () | {2,2}", "() a | () a | .", "a {0,1} {0,2}", "a {0,1} {1,2}"}, {"a {2,3}", "a a . a {0,1} .", "a a . a a a . . |", "a a {1,2} .", "a {1,2} a ."}, {"a {3,3} *", "a a a . . *", "a a a . . a {3,3} {2,2} | *", "a {3,3} a {3,3} * . () |"},
	{"0 1 |", "1 0 |", "0 1 | 0 |"}, {"0 1 .", "0 () . 1 ."}, {"a- b | b .", "b b . a- b . |", "a- b . b {2,2} |"},
}

func TestCompileOfEqualLanguages(t *testing.T) {
	for i, list := range sameLanguages {
		for _, s := range list {
			for j, others := range sameLanguages {
				for _, other := range others {
					checkSameCompiled(t, exprOf(t, s), exprOf(t, other), i == j)
				}
			}
		}
	}
}

// rewritten returns an expression with the same language, which need not be valid.
func rewritten(r *rand.Rand, e impl.Expr) impl.Expr {
	last := e.Tokens[len(e.Tokens)-1]
	x, y := wantedSplit(e)
	switch {
	case r.Intn(4) == 0:
		none, empty := joined(plain(1)), joined(plain(2))
		choices := []impl.Expr{joined(plain(4), e, empty), joined(plain(4), empty, e), joined(plain(5), none, e), joined(plain(5), e, none), joined(plain(5), e, e), joined(repeating(1, 1), e)}
		return rewritten(r, choices[r.Intn(len(choices))])
	case last.Kind == 5 && r.Intn(2) == 0:
		return joined(last, rewritten(r, y), rewritten(r, x))
	case last.Kind == 6 && r.Intn(2) == 0:
		return joined(last, rewritten(r, joined(repeating(r.Intn(2), 1+r.Intn(3)), x)))
	case operandsOf(last) == 2:
		return joined(last, rewritten(r, x), rewritten(r, y))
	case operandsOf(last) == 1:
		return joined(last, rewritten(r, x))
	}
	return e
}

func TestCompileOfRewrittenExprs(t *testing.T) {
	r := rand.New(rand.NewSource(1201))
	same := 0
	for range 6000 {
		e := randomExpr(r, 1+r.Intn(10))
		f := rewritten(r, e)
		a, ok := impl.CompileExpr(e)
		b, also := impl.CompileExpr(f)
		if !ok || !also || impl.EqualExprs(e, f) {
			continue
		}
		same++
		if !sameAutomaton(a, b) {
			t.Fatalf("%v is compiled to %v, and %v to %v", e, a, f, b)
		}
	}
	if same < 1500 {
		t.Errorf("only %d pairs of expressions are compiled", same)
	}
}

// Expressions have the same automaton if and only if they have the same words. Those of so few tokens that have not the same words differ in one of at most twelve letters.
func TestCompileOfShortExprs(t *testing.T) {
	formats, languages := map[string]string{}, map[string]string{}
	eachShortExpr(func(e impl.Expr) {
		a, ok := impl.CompileExpr(e)
		if !ok {
			return
		}
		words := ""
		for _, word := range sortedWords(wordsOf(e, 12)) {
			words += spelled(word) + ","
		}
		format := impl.FormatAutomaton(a)
		if other, known := formats[words]; known && other != format {
			t.Fatalf("%v has the automaton %q, but an expression with the same words has %q", e, format, other)
		}
		if other, known := languages[format]; known && other != words {
			t.Fatalf("the expression %v of the automaton %q has the words %q, but another one has %q", e, format, words, other)
		}
		formats[words], languages[format] = format, words
	})
	if len(formats) < 100 {
		t.Errorf("only %d languages", len(formats))
	}
}

func TestMinimizationArgumentsStay(t *testing.T) {
	for _, original := range append(validAutomata(t), invalidAutomata()...) {
		a, memory := roomyAutomaton(original)
		before, rows := cloneAutomaton(memory), slices.Clone(a.Next[:cap(a.Next)])
		scribbleWords([][]int{impl.StateClasses(a)})
		scribbleAutomaton(impl.Minimize(a))
		impl.IsMinimal(a)
		for state := range len(a.Accept) {
			word, _ := impl.DistinguishingWord(a, 0, state)
			scribbleWords([][]int{word})
		}
		sameRows := slices.EqualFunc(a.Next[:cap(a.Next)], rows, func(x []int, y []int) bool { return slices.Equal(x, y) && &x[:1][0] == &y[:1][0] })
		if !sameAutomaton(memory, before) || !sameRows {
			t.Fatalf("the argument %v has changed", original)
		}
	}
	check := func(original impl.Expr) {
		e, memory := roomyExpr(original)
		before := slices.Clone(memory)
		a, _ := impl.CompileExpr(e)
		scribbleAutomaton(a)
		if !slices.Equal(memory, before) {
			t.Fatalf("the argument %v has changed", original)
		}
	}
	eachListedExpr(t, check)
	for _, e := range noExprs(t) {
		check(e)
	}
}

func TestMinimizationResultsAreNewMemory(t *testing.T) {
	for _, a := range append(validAutomata(t), minimalAutomata(t)...) {
		checkNewMemory(t, func() impl.Automaton { return impl.Minimize(a) })
		classes, again := impl.StateClasses(a), impl.StateClasses(a)
		scribbleWords([][]int{again})
		if !slices.Equal(classes, wantedClasses(a)) {
			t.Fatalf("the classes %v share memory", classes)
		}
		last := len(a.Accept) - 1
		word, _ := impl.DistinguishingWord(a, 0, last)
		want := slices.Clone(word)
		other, _ := impl.DistinguishingWord(a, 0, last)
		scribbleWords([][]int{other})
		if !slices.Equal(word, want) {
			t.Fatalf("the word %v shares memory", word)
		}
	}
	eachListedExpr(t, func(e impl.Expr) {
		checkNewMemory(t, func() impl.Automaton {
			a, _ := impl.CompileExpr(e)
			return a
		})
	})
	// The result must not depend on the memory of the argument.
	for _, s := range []string{"start 0; 0 a>1 c>0; 1* b>0", "start 1; 0*; 1 a>0 b>2 c>1; 2 a>2", "start 0; 0 a>1 b>2; 1*; 2*"} {
		a, memory := roomyAutomaton(automatonOf(t, s))
		minimal, classes := impl.Minimize(a), impl.StateClasses(a)
		word, _ := impl.DistinguishingWord(a, 0, 1)
		scribbleAutomaton(a)
		scribbleAutomaton(memory)
		a = automatonOf(t, s)
		if !sameAutomaton(minimal, wantedMinimal(a)) || !slices.Equal(classes, wantedClasses(a)) || len(word) != 0 {
			t.Error(minimal, classes, word)
		}
	}
	e, memory := roomyExpr(exprOf(t, "a b . *"))
	a, ok := impl.CompileExpr(e)
	scribbleTokens(memory)
	if !ok || !sameAutomaton(a, automatonOf(t, "start 0; 0* a>1; 1 b>0")) {
		t.Error(a, ok)
	}
}
