package tests

import (
	"cmp"
	"fmt"
	"math"
	"math/rand"
	"slices"
	"strconv"
	"strings"
	"testing"

	"loop.example/g01922/impl"
)

func TestAutomatonConstants(t *testing.T) {
	if impl.MaxStates != 12 {
		t.Error("constants", impl.MaxStates)
	}
}

func emptyRow() []int {
	return slices.Repeat([]int{-1}, 9)
}

// withStates returns an automaton that accepts nothing and has no transitions.
func withStates(states int) impl.Automaton {
	a := impl.Automaton{Accept: make([]bool, states)}
	for range states {
		a.Next = append(a.Next, emptyRow())
	}
	return a
}

// automatonOf reads the format of an automaton without the program; the automaton need not be valid.
func automatonOf(t *testing.T, s string) impl.Automaton {
	t.Helper()
	parts := strings.Split(s, "; ")
	a := withStates(len(parts) - 1)
	var err error
	if a.Start, err = strconv.Atoi(strings.TrimPrefix(parts[0], "start ")); err != nil {
		t.Fatalf("%q has no start", s)
	}
	for state, part := range parts[1:] {
		fields := strings.Fields(part)
		if strings.TrimSuffix(fields[0], "*") != strconv.Itoa(state) {
			t.Fatalf("%q has no state %d", s, state)
		}
		a.Accept[state] = strings.HasSuffix(fields[0], "*")
		for _, field := range fields[1:] {
			name, next, _ := strings.Cut(field, ">")
			if a.Next[state][wordFrom(t, name)[0]], err = strconv.Atoi(next); err != nil {
				t.Fatalf("%q has no next state after %s", s, field)
			}
		}
	}
	return a
}

func spelledAutomaton(a impl.Automaton) string {
	s := fmt.Sprintf("start %d", a.Start)
	for state, row := range a.Next {
		s += fmt.Sprintf("; %d", state)
		if a.Accept[state] {
			s += "*"
		}
		for letter, next := range row {
			if next >= 0 {
				s += fmt.Sprintf(" %s>%d", letterNames[letter], next)
			}
		}
	}
	return s
}

func sameAutomaton(a impl.Automaton, b impl.Automaton) bool {
	return a.Start == b.Start && slices.Equal(a.Accept, b.Accept) && slices.EqualFunc(a.Next, b.Next, func(x []int, y []int) bool { return slices.Equal(x, y) })
}

func cloneAutomaton(a impl.Automaton) impl.Automaton {
	a.Accept, a.Next = slices.Clone(a.Accept), slices.Clone(a.Next)
	for i, row := range a.Next {
		a.Next[i] = slices.Clone(row)
	}
	return a
}

// changed returns the automaton with one change.
func changed(a impl.Automaton, change func(a *impl.Automaton)) impl.Automaton {
	a = cloneAutomaton(a)
	change(&a)
	return a
}

// randomAutomaton has about as many transitions for each state as density says, with the letters 0, 4 and 8, or fewer of them.
func randomAutomaton(r *rand.Rand, states int, letters int, density float64) impl.Automaton {
	a := withStates(states)
	a.Start = r.Intn(states)
	for state, row := range a.Next {
		a.Accept[state] = r.Intn(4) == 0
		for i := range letters {
			if r.Float64()*float64(letters) < density {
				row[4*i] = r.Intn(states)
			}
		}
	}
	return a
}

// ring returns an automaton whose states follow each other in a circle with the letter; the last state accepts.
func ring(states int, letter int) impl.Automaton {
	a := withStates(states)
	for state := range states {
		a.Next[state][letter] = (state + 1) % states
	}
	a.Accept[states-1] = true
	return a
}

// full returns an automaton in which every letter leads from every state to another one, or, if there is only one, to itself.
func full(states int) impl.Automaton {
	a := withStates(states)
	for state, row := range a.Next {
		a.Accept[state] = true
		for letter := range row {
			row[letter] = (state + letter + 1) % states
		}
	}
	return a
}

// eachSmallAutomaton calls f for all automata of at most two states with the letters 1 and 8, and of three states with the letter 8.
func eachSmallAutomaton(f func(a impl.Automaton)) {
	for _, size := range []struct {
		states  int
		letters []int
	}{{1, []int{1, 8}}, {2, []int{1, 8}}, {3, []int{8}}} {
		choices := []int{-1}
		for state := range size.states {
			choices = append(choices, state)
		}
		transitions := size.states * len(size.letters)
		eachList(choices, transitions, func(list []int) {
			if len(list) < transitions {
				return
			}
			for bits := range size.states << size.states {
				a := withStates(size.states)
				a.Start = bits >> size.states
				for state := range size.states {
					a.Accept[state] = bits>>state&1 == 1
					for i, letter := range size.letters {
						a.Next[state][letter] = list[state*len(size.letters)+i]
					}
				}
				f(a)
			}
		})
	}
}

// writtenAutomata have a start that is not useful, states that are reached but not useful, states that are useful from elsewhere but not reached, and others.
var writtenAutomata = []string{
	"start 0; 0", "start 0; 0*", "start 0; 0 a>0", "start 0; 0* a>0", "start 0; 0 a>1; 1 b>2; 2*",
	"start 0; 0 a>1; 1", "start 0; 0 a>1; 1 b>0", "start 1; 0*; 1", "start 0; 0; 1*", "start 0; 0 a>0 2>0; 1* a>1", "start 0; 0 a>1; 1; 2* b>2", "start 1; 0* a>1 b>0; 1 c>1", "start 2; 0 a>1; 1* a>2; 2 a>2",
	"start 0; 0* a>1; 1", "start 0; 0 a>1 b>2; 1; 2*", "start 0; 0 a>1 b>2; 1 a>1; 2* b>1", "start 1; 0; 1 a>0 a->2; 2 1>3 2>0; 3* 0>0",
	"start 0; 0*; 1 a>0", "start 0; 0 b>1; 1*; 2 a>1", "start 2; 0 a>2; 1* b>0; 2* c->2", "start 3; 0* a>1; 1* a>0; 2* a>3; 3* a>3",
	"start 1; 0*; 1 a>0 b>2; 2 a>2", "start 3; 0* c>3; 1 b>0; 2 b>1; 3 a>2", "start 2; 0 a>1; 1* a>0; 2 2>1 a>0", "start 2; 0 a>1; 1* a>0; 2 2>0 a>1", "start 4; 0*; 1 a>0; 2 a>1 b>4; 3 a>2; 4 a>3",
	"start 11; 0*; 1 a>0; 2 a>1; 3 a>2; 4 a>3; 5 a>4; 6 a>5; 7 a>6; 8 a>7; 9 a>8; 10 a>9; 11 a>10", "start 5; 0*; 1 a>0; 2 a>1; 3 a>2; 4 a>3; 5 a>4; 6 a>5; 7 a>6; 8 a>7; 9 a>8; 10 a>9; 11 a>10",
}

func validAutomata(t *testing.T) []impl.Automaton {
	var list []impl.Automaton
	for _, s := range writtenAutomata {
		list = append(list, automatonOf(t, s))
	}
	for _, states := range []int{1, 2, 3, 11, 12} {
		for start := range states {
			for _, a := range []impl.Automaton{withStates(states), full(states), ring(states, 0), ring(states, 8)} {
				a.Start = start
				list = append(list, a)
			}
		}
	}
	r := rand.New(rand.NewSource(11))
	for range 600 {
		list = append(list, randomAutomaton(r, 1+r.Intn(12), 1+r.Intn(3), 3*r.Float64()))
	}
	return list
}

// invalidAutomata breaks valid automata in one way each.
func invalidAutomata() []impl.Automaton {
	list := []impl.Automaton{{}, {Accept: []bool{}, Next: [][]int{}}, {Start: -1}, {Start: 1}, {Accept: []bool{true}}, {Next: [][]int{emptyRow()}}}
	add := func(a impl.Automaton, change func(a *impl.Automaton)) {
		list = append(list, changed(a, change))
	}
	for _, states := range []int{1, 2, 3, 11, 12} {
		for _, a := range []impl.Automaton{withStates(states), full(states)} {
			for _, number := range []int{states, states + 1, 1 << 32, math.MaxInt, -1, -2, -states - 1, math.MinInt} {
				add(a, func(a *impl.Automaton) { a.Start = number })
				for place := range states * 9 {
					if number != -1 {
						add(a, func(a *impl.Automaton) { a.Next[place/9][place%9] = number })
					}
				}
			}
			for state := range states {
				for _, row := range [][]int{nil, {}, {-1}, emptyRow()[:8], append(emptyRow(), -1), append(emptyRow(), 0), slices.Repeat([]int{0}, 8), slices.Repeat([]int{0}, 18)} {
					add(a, func(a *impl.Automaton) { a.Next[state] = row })
				}
			}
			add(a, func(a *impl.Automaton) { a.Accept = append(a.Accept, true) })
			add(a, func(a *impl.Automaton) { a.Accept = a.Accept[:states-1] })
			add(a, func(a *impl.Automaton) { a.Accept = nil })
			add(a, func(a *impl.Automaton) { a.Next = append(a.Next, emptyRow()) })
			add(a, func(a *impl.Automaton) { a.Next = append(a.Next, nil) })
			add(a, func(a *impl.Automaton) { a.Next = a.Next[:states-1] })
			add(a, func(a *impl.Automaton) { a.Next = nil })
		}
	}
	for _, states := range []int{13, 14, 24, 64, 65, 200, 1000} {
		list = append(list, withStates(states), full(states), ring(states, 0))
	}
	return list
}

func TestIsValidAutomaton(t *testing.T) {
	for _, a := range validAutomata(t) {
		if !impl.IsValidAutomaton(a) {
			t.Fatalf("IsValidAutomaton(%v) = false", a)
		}
	}
	eachSmallAutomaton(func(a impl.Automaton) {
		if !impl.IsValidAutomaton(a) {
			t.Fatalf("IsValidAutomaton(%v) = false", a)
		}
	})
	for _, a := range invalidAutomata() {
		if impl.IsValidAutomaton(a) {
			t.Fatalf("IsValidAutomaton(%v) = true", a)
		}
	}
}

// With an automaton that is not valid every function has a result of its own.
func TestAutomatonFunctionsInvalid(t *testing.T) {
	for _, a := range invalidAutomata() {
		for _, word := range append(languageWords(), []int{8}, make([]int, 20)) {
			checkRun(t, a, word, -1)
		}
		checkUseful(t, a, nil)
		checkTrimmed(t, a, impl.Automaton{})
		checkAutomatonFormat(t, a, "")
	}
}

// checkRun checks which state the word leads to, and that it is accepted exactly if that state accepts.
func checkRun(t *testing.T, a impl.Automaton, word []int, want int) {
	t.Helper()
	if state := impl.RunWord(a, word); state != want {
		t.Fatalf("RunWord(%v, %v) = %d; want %d", a, word, state, want)
	}
	accepted := want >= 0 && a.Accept[want]
	if impl.AcceptsWord(a, word) != accepted {
		t.Fatalf("AcceptsWord(%v, %v) = %v", a, word, !accepted)
	}
}

func TestRunWord(t *testing.T) {
	a := automatonOf(t, "start 1; 0* b>2; 1 a>0 a->1 2>2; 2 a>2 c>0")
	for _, c := range []struct {
		word string
		want int
	}{{"()", 1}, {"a", 0}, {"a-", 1}, {"2", 2}, {"b", -1}, {"c", -1}, {"0", -1}, {"a b", 2}, {"a a", -1}, {"a b c", 0}, {"a b a a a c", 0}, {"a- a- a- 2 c b", 2}, {"b a", -1}, {"a a b", -1}, {"2 a c b c b", 2}, {"2 a c b c b b", -1}} {
		checkRun(t, a, wordFrom(t, c.word), c.want)
	}
	// The empty word leads to the start, whether it accepts or not.
	for _, a := range validAutomata(t) {
		checkRun(t, a, nil, a.Start)
		checkRun(t, a, []int{}, a.Start)
	}
}

// Without a letter there is no run, even where all letters would lead on.
func TestRunWithoutLetters(t *testing.T) {
	for _, a := range []impl.Automaton{full(1), full(2), full(12), ring(3, 0), withStates(1)} {
		for _, letter := range noLetters {
			for _, word := range [][]int{{letter}, {0, letter}, {letter, 0}, {0, 0, letter, 0}, {0, 0, 0, 0, 0, 0, 0, 0, 0, 0, 0, letter}, {1, letter}, {letter, letter}} {
				checkRun(t, a, word, -1)
			}
		}
	}
}

// A word may have any number of letters.
func TestRunLongWords(t *testing.T) {
	for _, letters := range []int{8, 9, 10, 11, 12, 13, 100, 100000} {
		for _, states := range []int{1, 2, 5, 12} {
			for _, letter := range []int{0, 8} {
				checkRun(t, ring(states, letter), slices.Repeat([]int{letter}, letters), letters%states)
				checkRun(t, ring(states, letter), append(slices.Repeat([]int{letter}, letters), 1), -1)
				checkRun(t, ring(states, letter), append([]int{1}, slices.Repeat([]int{letter}, letters)...), -1)
				checkRun(t, ring(states, letter), append(slices.Repeat([]int{letter}, letters), 9), -1)
				checkRun(t, full(states), slices.Repeat([]int{letter}, letters), letters*(letter+1)%states)
			}
		}
	}
}

func wantedRun(a impl.Automaton, from int, word []int) int {
	if from < 0 || len(word) == 0 {
		return from
	}
	return wantedRun(a, a.Next[from][word[0]], word[1:])
}

func TestRunsOfAutomata(t *testing.T) {
	r := rand.New(rand.NewSource(111))
	for _, a := range validAutomata(t) {
		eachList([]int{0, 4, 8}, 3, func(word []int) { checkRun(t, a, word, wantedRun(a, a.Start, word)) })
		for range 20 {
			word := randomLetters(r, r.Intn(30))
			for i := range word {
				word[i] = word[i] / 3 * 4
			}
			checkRun(t, a, word, wantedRun(a, a.Start, word))
		}
	}
}

// reaches tells for any two states whether a word, which may be empty, leads from one to the other.
func reaches(a impl.Automaton) [][]bool {
	out := make([][]bool, len(a.Accept))
	for state, row := range a.Next {
		out[state] = make([]bool, len(a.Accept))
		out[state][state] = true
		for _, next := range row {
			if next >= 0 {
				out[state][next] = true
			}
		}
	}
	for middle := range out {
		for from := range out {
			for to := range out {
				out[from][to] = out[from][to] || out[from][middle] && out[middle][to]
			}
		}
	}
	return out
}

func wantedUseful(a impl.Automaton) []int {
	reached := reaches(a)
	var useful []int
	for state := range a.Accept {
		for goal, accepts := range a.Accept {
			if accepts && reached[a.Start][state] && reached[state][goal] {
				useful = append(useful, state)
				break
			}
		}
	}
	return useful
}

func checkUseful(t *testing.T, a impl.Automaton, want []int) {
	t.Helper()
	if useful := impl.UsefulStates(a); !slices.Equal(useful, want) {
		t.Fatalf("UsefulStates(%v) = %v; want %v", a, useful, want)
	}
}

func checkTrimmed(t *testing.T, a impl.Automaton, want impl.Automaton) {
	t.Helper()
	if trimmed := impl.TrimAutomaton(a); !sameAutomaton(trimmed, want) {
		t.Fatalf("TrimAutomaton(%v) = %v; want %v", a, trimmed, want)
	}
}

func TestTrimAutomaton(t *testing.T) {
	for _, c := range []struct {
		a      string
		useful []int
		want   string
	}{
		{"start 0; 0*", []int{0}, "start 0; 0*"}, {"start 0; 0* a>0", []int{0}, "start 0; 0* a>0"}, {"start 0; 0 a>1; 1 b>2; 2*", []int{0, 1, 2}, "start 0; 0 a>1; 1 b>2; 2*"},
		// The edge case: a start that is not useful, without and with other useful states.
		{"start 0; 0", nil, "start 0; 0"}, {"start 0; 0 a>0", nil, "start 0; 0"}, {"start 0; 0 a>1; 1", nil, "start 0; 0"}, {"start 1; 0 a>1; 1 b>0", nil, "start 0; 0"}, {"start 0; 0 a>0 b>1; 1 a>1 b>0", nil, "start 0; 0"}, {"start 11; 0; 1; 2; 3; 4; 5; 6; 7; 8; 9; 10; 11 a>10", nil, "start 0; 0"},
		{"start 1; 0*; 1", nil, "start 0; 0"}, {"start 0; 0; 1*", nil, "start 0; 0"}, {"start 0; 0 a>0; 1* a>1", nil, "start 0; 0"}, {"start 1; 0* a>1 b>0; 1 c>1", nil, "start 0; 0"}, {"start 2; 0 a>1; 1* a>2; 2 a>2", nil, "start 0; 0"}, {"start 0; 0 a>1; 1 a>0; 2 a>3; 3* a>0", nil, "start 0; 0"},
		// States that are reached, but not useful.
		{"start 0; 0* a>1; 1", []int{0}, "start 0; 0*"}, {"start 1; 0; 1* a>0", []int{1}, "start 0; 0*"}, {"start 1; 0 b>0; 1* a>0 b>1", []int{1}, "start 0; 0* b>0"}, {"start 0; 0 a>1 b>2; 1; 2*", []int{0, 2}, "start 0; 0 b>1; 1*"}, {"start 0; 0 a>1 b>2; 1 a>1; 2* b>1 c>0", []int{0, 2}, "start 0; 0 b>1; 1* c>0"}, {"start 1; 0; 1 a>0 a->2; 2 1>3 2>0; 3* 0>0", []int{1, 2, 3}, "start 0; 0 a->1; 1 1>2; 2*"},
		// States that are useful from elsewhere, but not reached.
		{"start 0; 0*; 1 a>0", []int{0}, "start 0; 0*"}, {"start 1; 0* a>1 b>0; 1*", []int{1}, "start 0; 0*"}, {"start 0; 0 b>1; 1*; 2 a>1", []int{0, 1}, "start 0; 0 b>1; 1*"}, {"start 2; 0 a>2; 1* b>0; 2* c->2", []int{2}, "start 0; 0* c->0"}, {"start 3; 0* a>1; 1* a>0; 2* a>3; 3* a>3", []int{3}, "start 0; 0* a>0"}, {"start 4; 0*; 1 a>0; 2 a>1 b>4; 3 a>2 2>3; 4 a>3", []int{0, 1, 2, 3, 4}, "start 0; 0 a>1; 1 a>2 2>1; 2 a>3 b>0; 3 a>4; 4*"},
		// Both.
		{"start 1; 0*; 1 a>0 b>2; 2 a>2", []int{0, 1}, "start 0; 0 a>1; 1*"}, {"start 2; 0 a>1; 1* a>3; 2 0>1 b>3; 3 a>3", []int{1, 2}, "start 0; 0 0>1; 1*"},
		// The numbers follow the numbers of the states before, and the letters.
		{"start 3; 0* c>3; 1 b>0; 2 b>1; 3 a>2", []int{0, 1, 2, 3}, "start 0; 0 a>1; 1 b>2; 2 b>3; 3* c>0"}, {"start 2; 0 a>1; 1* a>0; 2 a>0 2>1", []int{0, 1, 2}, "start 0; 0 a>1 2>2; 1 a>2; 2* a>1"}, {"start 2; 0 a>1; 1* a>0; 2 a>1 2>0", []int{0, 1, 2}, "start 0; 0 a>1 2>2; 1* a>2; 2 a>1"},
		{"start 0; 0 a>2 b>1; 1 a>3; 2 a>4; 3*; 4*", []int{0, 1, 2, 3, 4}, "start 0; 0 a>1 b>2; 1 a>3; 2 a>4; 3*; 4*"}, {"start 0; 0 a>4 b>3; 1*; 2*; 3 a>1; 4 2>2", []int{0, 1, 2, 3, 4}, "start 0; 0 a>1 b>2; 1 2>3; 2 a>4; 3*; 4*"}, {"start 0; 0 b>1 c>2; 1 2>3; 2 a>4; 3*; 4*", []int{0, 1, 2, 3, 4}, "start 0; 0 b>1 c>2; 1 2>3; 2 a>4; 3*; 4*"},
		{"start 0; 0 a>1 b>2; 1; 2 a>1 b>3; 3*", []int{0, 2, 3}, "start 0; 0 b>1; 1 b>2; 2*"}, {"start 4; 0*; 1 a>0; 2 a>1; 3 a>2; 4 a>3; 5 a>4", []int{0, 1, 2, 3, 4}, "start 0; 0 a>1; 1 a>2; 2 a>3; 3 a>4; 4*"},
		{"start 11; 0*; 1 a>0; 2 a>1; 3 a>2; 4 a>3; 5 a>4; 6 a>5; 7 a>6; 8 a>7; 9 a>8; 10 a>9; 11 a>10", []int{0, 1, 2, 3, 4, 5, 6, 7, 8, 9, 10, 11}, "start 0; 0 a>1; 1 a>2; 2 a>3; 3 a>4; 4 a>5; 5 a>6; 6 a>7; 7 a>8; 8 a>9; 9 a>10; 10 a>11; 11*"},
	} {
		checkUseful(t, automatonOf(t, c.a), c.useful)
		checkTrimmed(t, automatonOf(t, c.a), automatonOf(t, c.want))
	}
}

// leastWords returns for each state the least word that leads there from the start through useful states only.
func leastWords(a impl.Automaton, useful []int) map[int][]int {
	words := map[int][]int{a.Start: {}}
	for range a.Accept {
		for _, state := range useful {
			word, found := words[state]
			for letter, next := range a.Next[state] {
				if !found || !slices.Contains(useful, next) {
					continue
				}
				longer := append(slices.Clone(word), letter)
				if other, known := words[next]; !known || cmp.Or(cmp.Compare(len(longer), len(other)), slices.Compare(longer, other)) < 0 {
					words[next] = longer
				}
			}
		}
	}
	return words
}

// wantedTrim numbers the useful states by the least words that lead to them.
func wantedTrim(a impl.Automaton) impl.Automaton {
	useful := wantedUseful(a)
	if !slices.Contains(useful, a.Start) {
		return withStates(1)
	}
	words := leastWords(a, useful)
	slices.SortFunc(useful, func(s int, t int) int {
		return cmp.Or(cmp.Compare(len(words[s]), len(words[t])), slices.Compare(words[s], words[t]))
	})
	out := withStates(len(useful))
	for number, state := range useful {
		out.Accept[number] = a.Accept[state]
		for letter, next := range a.Next[state] {
			out.Next[number][letter] = slices.Index(useful, next)
		}
	}
	return out
}

// checkTrimming also checks that trimming changes nothing more if it is done again, and no accepted word.
func checkTrimming(t *testing.T, a impl.Automaton, letters []int, length int) {
	t.Helper()
	useful, want := wantedUseful(a), wantedTrim(a)
	checkUseful(t, a, useful)
	checkTrimmed(t, a, want)
	checkTrimmed(t, want, want)
	if !impl.IsValidAutomaton(want) || len(want.Accept) != max(1, len(useful)) {
		t.Fatalf("%v is trimmed to %v", a, want)
	}
	eachList(letters, length, func(word []int) {
		if impl.AcceptsWord(want, word) != impl.AcceptsWord(a, word) {
			t.Fatalf("%v is trimmed to %v, which differs for %v", a, want, word)
		}
	})
}

func TestTrimSmallAutomata(t *testing.T) {
	eachSmallAutomaton(func(a impl.Automaton) { checkTrimming(t, a, []int{1, 8}, 2) })
}

func TestTrimmingOfAutomata(t *testing.T) {
	fewer, same, none := 0, 0, 0
	for _, a := range validAutomata(t) {
		checkTrimming(t, a, []int{0, 4, 8}, 3)
		switch len(impl.UsefulStates(a)) {
		case 0:
			none++
		case len(a.Accept):
			same++
		default:
			fewer++
		}
	}
	if none < 100 || same < 100 || fewer < 100 {
		t.Errorf("%d automata have no useful states, %d some, and %d only such", none, fewer, same)
	}
	r := rand.New(rand.NewSource(1111))
	for range 3000 {
		checkTrimming(t, randomAutomaton(r, 6+r.Intn(7), 3, 1+r.Float64()), []int{0, 4, 8}, 2)
	}
}

func checkDeterminized(t *testing.T, p impl.Positions, want impl.Automaton, wantOk bool) {
	t.Helper()
	if a, ok := impl.Determinize(p); ok != wantOk || !sameAutomaton(a, want) {
		t.Fatalf("Determinize(%v) = %v, %v; want %v, %v", p, a, ok, want, wantOk)
	}
}

func TestDeterminize(t *testing.T) {
	for _, c := range [][2]string{
		{"a b .", "start 0; 0 a>1; 1 b>2; 2*"}, {"a", "start 0; 0 a>1; 1*"}, {"2", "start 0; 0 2>1; 1*"}, {"()", "start 0; 0*"}, {"!", "start 0; 0"}, {"! *", "start 0; 0*"}, {"() {2,3}", "start 0; 0*"}, {"! {1,3}", "start 0; 0"},
		// The set of the initial state is not reached again, and sets that accept the same are not merged.
		{"a *", "start 0; 0* a>1; 1* a>1"}, {"a b . *", "start 0; 0* a>1; 1 b>2; 2* a>1"}, {"a b | *", "start 0; 0* a>1 b>2; 1* a>1 b>2; 2* a>1 b>2"}, {"a b |", "start 0; 0 a>1 b>2; 1*; 2*"}, {"a {0,2}", "start 0; 0* a>1; 1* a>2; 2*"},
		// A set of several positions is one state.
		{"a a |", "start 0; 0 a>1; 1*"}, {"a a | *", "start 0; 0* a>1; 1* a>1"}, {"a a . a |", "start 0; 0 a>1; 1* a>2; 2*"}, {"a b . a c . |", "start 0; 0 a>1; 1 b>2 c>3; 2*; 3*"}, {"a b | * a .", "start 0; 0 a>1 b>2; 1* a>1 b>2; 2 a>1 b>2"}, {"a b | * a . b .", "start 0; 0 a>1 b>2; 1 a>1 b>3; 2 a>1 b>2; 3* a>1 b>2"}, {"a b | * a . a b | .", "start 0; 0 a>1 b>2; 1 a>3 b>4; 2 a>1 b>2; 3* a>3 b>4; 4* a>1 b>2"},
		// States from which nothing is accepted stay.
		{"a ! .", "start 0; 0 a>1; 1"}, {"a b . ! .", "start 0; 0 a>1; 1 b>2; 2"}, {"a ! . b |", "start 0; 0 a>1 b>2; 1; 2*"}, {"a * ! .", "start 0; 0 a>1; 1 a>1"}, {"! a .", "start 0; 0"},
		// The letters ascend, whatever the order of the positions is, and a state is numbered when its predecessor is processed.
		{"b a |", "start 0; 0 a>1 b>2; 1*; 2*"}, {"2 c- | a | 0 |", "start 0; 0 a>1 c->2 0>3 2>4; 1*; 2*; 3*; 4*"}, {"b a . a b . |", "start 0; 0 a>1 b>2; 1 b>3; 2 a>4; 3*; 4*"}, {"a c . b a . |", "start 0; 0 a>1 b>2; 1 c>3; 2 a>4; 3*; 4*"}, {"b a . b . c a . |", "start 0; 0 b>1 c>2; 1 a>3; 2 a>4; 3 b>5; 4*; 5*"},
		{"a a- | b | b- | c | c- | 0 | 1 | 2 |", "start 0; 0 a>1 a->2 b>3 b->4 c>5 c->6 0>7 1>8 2>9; 1*; 2*; 3*; 4*; 5*; 6*; 7*; 8*; 9*"},
	} {
		p, ok := impl.BuildPositions(exprOf(t, c[0]))
		if !ok {
			t.Fatal(c[0])
		}
		checkDeterminized(t, p, automatonOf(t, c[1]), true)
		a, _ := impl.Determinize(p)
		checkAutomatonFormat(t, a, c[1])
	}
}

// wantedSets returns the state sets, besides the empty one, that the words of ascending length lead to, and their numbers; it stops when there are more than the limit.
func wantedSets(p impl.Positions, limit int) ([]int, map[int]int) {
	sets, numbers := []int{1}, map[int]int{1: 0}
	for words := [][]int{nil}; len(words) > 0 && len(sets) <= limit; {
		var longer [][]int
		for _, word := range words {
			for letter := range 9 {
				next := append(slices.Clone(word), letter)
				set := wantedAfterWord(p, next)
				if _, known := numbers[set]; !known && set != 0 && len(sets) <= limit {
					numbers[set] = len(sets)
					sets = append(sets, set)
					longer = append(longer, next)
				}
			}
		}
		words = longer
	}
	return sets, numbers
}

func wantedAfterWord(p impl.Positions, word []int) int {
	set := 1
	for _, letter := range word {
		set = wantedAfter(p, set, letter)
	}
	return set
}

func wantedDeterminized(p impl.Positions, limit int) (impl.Automaton, bool) {
	sets, numbers := wantedSets(p, limit)
	if len(sets) > limit {
		return impl.Automaton{}, false
	}
	a := withStates(len(sets))
	for state, set := range sets {
		a.Accept[state] = wantedAccepts(p, set)
		for letter := range 9 {
			if next := wantedAfter(p, set, letter); next != 0 {
				a.Next[state][letter] = numbers[next]
			}
		}
	}
	return a, true
}

// checkDeterminize checks the automaton of valid positions, and that it accepts exactly the words that they match.
func checkDeterminize(t *testing.T, p impl.Positions, words [][]int) (impl.Automaton, bool) {
	t.Helper()
	want, ok := wantedDeterminized(p, 12)
	checkDeterminized(t, p, want, ok)
	if !ok {
		return want, false
	}
	if !impl.IsValidAutomaton(want) {
		t.Fatalf("the automaton %v of %v is not valid", want, p)
	}
	for _, word := range words {
		if accepted := impl.AcceptsWord(want, word); accepted != wantedAccepts(p, wantedAfterWord(p, word)) || len(word) <= 8 && accepted != impl.PositionsMatch(p, word) {
			t.Fatalf("AcceptsWord(%v, %v) = %v, but the positions are %v", want, word, accepted, p)
		}
	}
	return want, true
}

func TestDeterminizePositions(t *testing.T) {
	var words [][]int
	eachList([]int{0, 4, 8}, 4, func(word []int) { words = append(words, word) })
	words = append(words, []int{9}, []int{0, 9}, []int{-1}, make([]int, 9), slices.Repeat([]int{0, 8}, 8), slices.Repeat([]int{8, 8, 0}, 9))
	for _, p := range validPositions(t) {
		checkDeterminize(t, p, words)
	}
	r := rand.New(rand.NewSource(112))
	yes, no := 0, 0
	for range 1500 {
		if _, ok := checkDeterminize(t, randomPositions(r, r.Intn(14), 1+r.Intn(3)), words); ok {
			yes++
		} else {
			no++
		}
	}
	if yes < 500 || no < 100 {
		t.Errorf("%d positions have an automaton, and %d have none", yes, no)
	}
}

// The automaton accepts the language of the expression, also when it is trimmed.
func TestDeterminizeKeepsLanguage(t *testing.T) {
	r := rand.New(rand.NewSource(1112))
	accepted, built := 0, 0
	eachPositionsExpr(t, func(e impl.Expr) {
		p, ok := impl.BuildPositions(e)
		if !ok {
			return
		}
		a, ok := checkDeterminize(t, p, nil)
		if !ok {
			return
		}
		built++
		trimmed := impl.TrimAutomaton(a)
		words := wordsNear(r, randomWordOf(r, e))
		eachList([]int{0, 2, 3, 7}, 2, func(word []int) { words = append(words, word) })
		for _, word := range words {
			if len(word) > 8 {
				continue
			}
			want := impl.MatchesWord(e, word)
			if impl.AcceptsWord(a, word) != want || impl.AcceptsWord(trimmed, word) != want {
				t.Fatalf("the automata %v and %v of %v: AcceptsWord(%v) is not %v", a, trimmed, e, word, want)
			}
			if want {
				accepted++
			}
		}
	})
	if accepted < 10000 || built < 3000 {
		t.Errorf("only %d words are accepted by %d automata", accepted, built)
	}
}

func TestAutomatonAcceptsWords(t *testing.T) {
	check := func(e impl.Expr) {
		p, built := impl.BuildPositions(e)
		a, ok := impl.Determinize(p)
		if !built || !ok {
			return
		}
		words := wordsOf(e, 3)
		eachList([]int{0, 2, 3, 7}, 3, func(word []int) {
			if impl.AcceptsWord(a, word) != words[keyOf(word)] {
				t.Fatalf("the automaton %v of %v: AcceptsWord(%v) = %v", a, e, word, !words[keyOf(word)])
			}
		})
	}
	eachListedExpr(t, check)
	r := rand.New(rand.NewSource(1121))
	for range 500 {
		check(randomExpr(r, 1+r.Intn(24)))
	}
}

// star returns positions of which each follows the initial state alone; they read the letters in turn.
func star(positions int) impl.Positions {
	p := impl.Positions{First: 1<<positions - 1, Follow: make([]int, positions)}
	for i := range positions {
		p.Letters = append(p.Letters, i%9)
	}
	return p
}

func TestMostStates(t *testing.T) {
	for states, list := range map[int][]string{
		11: {"a {3,3} {3,3} a .", "a {0,3} {3,3} a .", "a {3,3} b {3,3} . c {3,3} . 2 ."},
		12: {"a {3,3} {3,3} a {2,2} .", "a {3,3} {3,3} a {2,2} . *", "a {3,3} {3,3} a {2,2} . ! .", "a {1,3} {3,3} a {0,2} .", "a a- | b | b- | c | c- | 0 | 1 | 2 | a . a .", "a b | c . {3,3} a . c .", "a b | {3,3} a {2,2} . a {3,3} ."},
		13: {"a {3,3} {3,3} a {3,3} .", "a {3,3} {2,2} {2,2} *", "a {3,3} {3,3} a {3,3} . ! .", "a {0,3} {3,3} a {0,3} .", "a a- | b | b- | c | c- | 0 | 1 | 2 | a . a . a .", "a b | c . {3,3} a . c . 2 .", "a b | {3,3} a {3,3} . a {3,3} ."},
		14: {"a {3,3} {3,3} a {3,3} . a .", "a a- | b | b- | c | c- | 0 | 1 | 2 | a . a . b {2,2} ."},
		21: {"a {3,3} {3,3} {2,2} a {2,2} .", "a {3,3} {2,2} {3,3} b {2,2} ."},
	} {
		for _, s := range list {
			p, ok := impl.BuildPositions(exprOf(t, s))
			if sets, _ := wantedSets(p, 100); !ok || len(sets) != states {
				t.Fatalf("%q has %d state sets; want %d", s, len(sets), states)
			}
			a, ok := checkDeterminize(t, p, nil)
			if ok != (states <= 12) || len(a.Accept) != states && ok {
				t.Fatalf("Determinize of %q = %v, %v", s, a, ok)
			}
		}
	}
	for positions := range 20 {
		p := cycles(positions + 1)
		a, ok := checkDeterminize(t, p, nil)
		if ok != (positions+2 <= 12) || ok && len(a.Accept) != positions+2 {
			t.Fatalf("Determinize(%v) = %v, %v", p, a, ok)
		}
		checkDeterminize(t, star(positions), nil)
	}
	// Nine letters of the initial state and one each of two of the states after it make exactly twelve states, and one more letter makes thirteen.
	p := star(12)
	p.First = 1<<9 - 1
	p.Follow[8], p.Follow[7] = 1<<9, 1<<10
	if a, ok := checkDeterminize(t, p, nil); !ok || len(a.Accept) != 12 || a.Next[9][0] != 11 || a.Next[8][1] != 10 {
		t.Fatalf("Determinize(%v) = %v, %v", p, a, ok)
	}
	p.Follow[0] = 1 << 11
	checkDeterminized(t, p, impl.Automaton{}, false)
	if a, ok := impl.Determinize(complete(20, 8)); !ok || !sameAutomaton(a, automatonOf(t, "start 0; 0* 2>1; 1* 2>1")) {
		t.Error(a, ok)
	}
}

// Up to a million sets are reached here; they must not all be looked for.
func TestDeterminizeManySets(t *testing.T) {
	for _, s := range []string{"a b | * a . a b | {3,3} {2,2} a b | . .", "a b | * a . a b | {2,2} .", "a a . b | * a . a b | {3,3} {2,2} .", "a {3,3} {2,2} a . * a {3,3} {3,3} * |"} {
		p, ok := impl.BuildPositions(exprOf(t, s))
		if !ok {
			t.Fatal(s)
		}
		checkDeterminize(t, p, nil)
	}
	r := rand.New(rand.NewSource(2020))
	none := 0
	for range 300 {
		p := randomPositions(r, 20, 3)
		if _, ok := checkDeterminize(t, p, nil); !ok {
			none++
		}
	}
	if none < 250 {
		t.Errorf("only %d of 300 positions have more than twelve state sets", none)
	}
}

func TestDeterminizeInvalid(t *testing.T) {
	for _, p := range invalidPositions(t) {
		checkDeterminized(t, p, impl.Automaton{}, false)
	}
}

func checkAutomataEqual(t *testing.T, a impl.Automaton, b impl.Automaton, want bool) {
	t.Helper()
	if impl.EqualAutomata(a, b) != want || impl.EqualAutomata(b, a) != want {
		t.Fatalf("EqualAutomata(%v, %v) = %v", a, b, !want)
	}
}

// automataNear returns automata that differ from a valid one in one field or element only.
func automataNear(a impl.Automaton) []impl.Automaton {
	var list []impl.Automaton
	add := func(change func(a *impl.Automaton)) {
		list = append(list, changed(a, change))
	}
	for _, start := range []int{-1, 12, a.Start + 1, a.Start ^ 1<<40, math.MinInt, math.MaxInt} {
		if start != a.Start {
			add(func(a *impl.Automaton) { a.Start = start })
		}
	}
	add(func(a *impl.Automaton) { a.Accept = append(a.Accept, false) })
	add(func(a *impl.Automaton) { a.Next = append(a.Next, nil) })
	add(func(a *impl.Automaton) { a.Next = append(a.Next, emptyRow()) })
	for state := range a.Accept {
		add(func(a *impl.Automaton) { a.Accept[state] = !a.Accept[state] })
		add(func(a *impl.Automaton) { a.Accept = a.Accept[:state] })
		add(func(a *impl.Automaton) { a.Next = a.Next[:state] })
		add(func(a *impl.Automaton) { a.Next[state] = nil })
		add(func(a *impl.Automaton) { a.Next[state] = append(a.Next[state], -1) })
		add(func(a *impl.Automaton) { a.Next[state] = a.Next[state][:8] })
		for letter := range 9 {
			for _, next := range []int{-2, -1, 0, 12, a.Next[state][letter] + 1, a.Next[state][letter] ^ 1<<40} {
				if next != a.Next[state][letter] {
					add(func(a *impl.Automaton) { a.Next[state][letter] = next })
				}
			}
		}
	}
	return list
}

func TestEqualAutomata(t *testing.T) {
	for _, a := range []impl.Automaton{withStates(1), withStates(12), ring(3, 1), full(2), automatonOf(t, "start 1; 0*; 1 a>0 b>2; 2 a>2")} {
		checkAutomataEqual(t, a, a, true)
		checkAutomataEqual(t, a, cloneAutomaton(a), true)
		for _, b := range automataNear(a) {
			checkAutomataEqual(t, a, b, false)
			checkAutomataEqual(t, b, cloneAutomaton(b), true)
		}
	}
	list := append(validAutomata(t), invalidAutomata()[:200]...)
	for i, a := range list {
		checkAutomataEqual(t, a, cloneAutomaton(a), true)
		for _, b := range list[i/2*2 : min(len(list), i+40)] {
			checkAutomataEqual(t, a, b, sameAutomaton(a, b))
		}
	}
	eachSmallAutomaton(func(a impl.Automaton) {
		checkAutomataEqual(t, a, automatonOf(t, spelledAutomaton(a)), true)
		checkAutomataEqual(t, a, changed(a, func(a *impl.Automaton) { a.Accept[0] = !a.Accept[0] }), false)
	})
}

// A nil list is an empty one, and the automata need not be valid.
func TestEqualInvalidAutomata(t *testing.T) {
	for _, c := range []struct {
		a, b impl.Automaton
		want bool
	}{
		{impl.Automaton{}, impl.Automaton{}, true},
		{impl.Automaton{}, impl.Automaton{Accept: []bool{}}, true},
		{impl.Automaton{}, impl.Automaton{Next: [][]int{}}, true},
		{impl.Automaton{Next: [][]int{nil}}, impl.Automaton{Next: [][]int{{}}}, true},
		{impl.Automaton{Next: [][]int{nil, {1}}}, impl.Automaton{Next: [][]int{{}, {1}}}, true},
		{impl.Automaton{Next: [][]int{nil}}, impl.Automaton{}, false},
		{impl.Automaton{Next: [][]int{nil}}, impl.Automaton{Next: [][]int{nil, nil}}, false},
		{impl.Automaton{Next: [][]int{nil, {1}}}, impl.Automaton{Next: [][]int{{1}, nil}}, false},
		{impl.Automaton{Next: [][]int{{1, 2}}}, impl.Automaton{Next: [][]int{{1}, {2}}}, false},
		{impl.Automaton{Accept: []bool{false}}, impl.Automaton{}, false},
		{impl.Automaton{Accept: []bool{false}}, impl.Automaton{Accept: []bool{true}}, false},
		{impl.Automaton{Start: 1}, impl.Automaton{}, false},
		{impl.Automaton{Start: -5}, impl.Automaton{Start: -5}, true},
		{withStates(100), withStates(100), true},
		{withStates(100), withStates(101), false},
		{full(1000), changed(full(1000), func(a *impl.Automaton) { a.Next[999][8]++ }), false},
	} {
		checkAutomataEqual(t, c.a, c.b, c.want)
	}
}

func checkAutomatonFormat(t *testing.T, a impl.Automaton, want string) {
	t.Helper()
	if s := impl.FormatAutomaton(a); s != want {
		t.Fatalf("FormatAutomaton(%v) = %q; want %q", a, s, want)
	}
}

func TestFormatAutomaton(t *testing.T) {
	// The example of the document.
	a := impl.Automaton{Start: 0, Accept: []bool{false, false, true}, Next: [][]int{{1, -1, -1, -1, -1, -1, -1, -1, -1}, {-1, -1, 2, -1, -1, -1, -1, -1, -1}, emptyRow()}}
	checkAutomatonFormat(t, a, "start 0; 0 a>1; 1 b>2; 2*")
	a.Start, a.Accept[0] = 2, true
	checkAutomatonFormat(t, a, "start 2; 0* a>1; 1 b>2; 2*")
	checkAutomatonFormat(t, withStates(1), "start 0; 0")
	checkAutomatonFormat(t, withStates(2), "start 0; 0; 1")
	checkAutomatonFormat(t, full(1), "start 0; 0* a>0 a->0 b>0 b->0 c>0 c->0 0>0 1>0 2>0")
	checkAutomatonFormat(t, full(2), "start 0; 0* a>1 a->0 b>1 b->0 c>1 c->0 0>1 1>0 2>1; 1* a>0 a->1 b>0 b->1 c>0 c->1 0>0 1>1 2>0")
	a = ring(12, 7)
	a.Start = 10
	checkAutomatonFormat(t, a, "start 10; 0 1>1; 1 1>2; 2 1>3; 3 1>4; 4 1>5; 5 1>6; 6 1>7; 7 1>8; 8 1>9; 9 1>10; 10 1>11; 11* 1>0")
	for _, s := range writtenAutomata {
		if a := automatonOf(t, s); spelledAutomaton(a) == s {
			checkAutomatonFormat(t, a, s)
		}
	}
	formats := map[string]bool{}
	count := 0
	check := func(a impl.Automaton) {
		checkAutomatonFormat(t, a, spelledAutomaton(a))
		formats[impl.FormatAutomaton(a)] = true
		count++
	}
	for _, a := range validAutomata(t) {
		check(a)
	}
	clear(formats)
	count = 0
	eachSmallAutomaton(check)
	if len(formats) != count {
		t.Errorf("%d automata have %d formats", count, len(formats))
	}
}

// roomyAutomaton returns the automaton with unused capacity in all its lists, and the memory behind them.
func roomyAutomaton(a impl.Automaton) (impl.Automaton, impl.Automaton) {
	memory := cloneAutomaton(a)
	memory.Accept = append(memory.Accept, true, false, true)
	memory.Next = append(memory.Next, []int{77, 77}, []int{77}, emptyRow())
	roomyNext := make([][]int, len(memory.Next))
	for i, row := range memory.Next {
		roomyNext[i], memory.Next[i] = roomy(row...)
	}
	return impl.Automaton{Start: a.Start, Accept: memory.Accept[:len(a.Accept)], Next: roomyNext[:len(a.Next)]}, impl.Automaton{Start: a.Start, Accept: memory.Accept, Next: memory.Next}
}

// scribbleAutomaton overwrites an automaton, the unused capacity of its lists included.
func scribbleAutomaton(a impl.Automaton) {
	for i := range a.Accept[:cap(a.Accept)] {
		a.Accept[:cap(a.Accept)][i] = !a.Accept[:cap(a.Accept)][i]
	}
	rows := a.Next[:cap(a.Next)]
	scribbleWords(rows)
	for i := range rows {
		rows[i] = []int{1000}
	}
}

func TestAutomatonArgumentsStay(t *testing.T) {
	for _, original := range append(validAutomata(t), invalidAutomata()...) {
		a, memory := roomyAutomaton(original)
		before, rows := cloneAutomaton(memory), slices.Clone(a.Next[:cap(a.Next)])
		for _, list := range languageWords() {
			word, wordMemory := roomy(list...)
			wordBefore := slices.Clone(wordMemory)
			impl.RunWord(a, word)
			impl.AcceptsWord(a, word)
			if !slices.Equal(wordMemory, wordBefore) {
				t.Fatalf("the argument %v has changed", list)
			}
		}
		impl.IsValidAutomaton(a)
		impl.FormatAutomaton(a)
		impl.EqualAutomata(a, original)
		impl.EqualAutomata(original, a)
		scribbleWords([][]int{impl.UsefulStates(a)})
		scribbleAutomaton(impl.TrimAutomaton(a))
		sameRows := slices.EqualFunc(a.Next[:cap(a.Next)], rows, func(x []int, y []int) bool { return slices.Equal(x, y) && &x[:1][0] == &y[:1][0] })
		if !sameAutomaton(memory, before) || !sameRows {
			t.Fatalf("the argument %v has changed", original)
		}
	}
	for _, original := range append(validPositions(t), invalidPositions(t)...) {
		p, memory := roomyPositions(original)
		before := clonePositions(memory)
		a, _ := impl.Determinize(p)
		scribbleAutomaton(a)
		if !samePositions(memory, before) {
			t.Fatalf("the argument %v has changed", original)
		}
	}
}

// checkNewMemory checks that a result of the call stays as it is when other results, or its other lists, are overwritten.
func checkNewMemory(t *testing.T, call func() impl.Automaton) {
	t.Helper()
	want := cloneAutomaton(call())
	for changed := range len(want.Next) {
		a, other := call(), call()
		scribbleAutomaton(other)
		scribbleWords([][]int{a.Next[changed]})
		a.Next[changed] = want.Next[changed]
		if !sameAutomaton(a, want) {
			t.Fatalf("the result %v shares memory", want)
		}
	}
}

func TestAutomatonResultsAreNewMemory(t *testing.T) {
	for _, a := range validAutomata(t) {
		checkNewMemory(t, func() impl.Automaton { return impl.TrimAutomaton(a) })
		useful, again := impl.UsefulStates(a), impl.UsefulStates(a)
		scribbleWords([][]int{again})
		if !slices.Equal(useful, wantedUseful(a)) {
			t.Fatalf("the useful states %v share memory", useful)
		}
	}
	for _, p := range validPositions(t) {
		checkNewMemory(t, func() impl.Automaton {
			a, _ := impl.Determinize(p)
			return a
		})
	}
	// The result must not depend on the memory of the argument.
	original := automatonOf(t, "start 1; 0*; 1 a>0 b>2 c>1; 2 a>2")
	a, memory := roomyAutomaton(original)
	trimmed, useful := impl.TrimAutomaton(a), impl.UsefulStates(a)
	scribbleAutomaton(a)
	scribbleAutomaton(memory)
	if !sameAutomaton(trimmed, automatonOf(t, "start 0; 0 a>1 c>0; 1*")) || !slices.Equal(useful, []int{0, 1}) {
		t.Error(trimmed, useful)
	}
	p, positions := roomyPositions(cycles(2, 3))
	a, _ = impl.Determinize(p)
	want := cloneAutomaton(a)
	scribbleWords([][]int{positions.Letters, positions.Follow})
	if !sameAutomaton(a, want) {
		t.Error(a)
	}
}
