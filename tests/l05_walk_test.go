package tests

import (
	"math"
	"math/rand"
	"regexp"
	"slices"
	"strconv"
	"strings"
	"testing"

	"loop.example/g01922/impl"
)

// walkOf reads the format of a walk, without the functions under test.
func walkOf(t *testing.T, s string) impl.Walk {
	t.Helper()
	start, steps, _ := strings.Cut(s, " ")
	node, err := strconv.Atoi(start)
	if err != nil {
		t.Fatal(err)
	}
	return impl.Walk{Start: node, Steps: stepsOf(t, steps)}
}

func sameWalk(a impl.Walk, b impl.Walk) bool {
	return a.Start == b.Start && slices.Equal(a.Steps, b.Steps)
}

func cloneWalk(w impl.Walk) impl.Walk {
	return impl.Walk{Start: w.Start, Steps: slices.Clone(w.Steps)}
}

// repeated returns the walk that takes the steps one after the other, and again from the first one, until it has this many.
func repeated(start int, steps []impl.Step, length int) impl.Walk {
	w := impl.Walk{Start: start}
	for i := range length {
		w.Steps = append(w.Steps, steps[i%len(steps)])
	}
	return w
}

// facts is what the functions of the chapter tell about a walk in a graph.
type facts struct {
	valid  bool
	nodes  []int
	end    int
	word   []int
	trail  bool
	simple bool
}

// noFacts belongs to a walk that is not valid.
var noFacts = facts{end: -1}

func factsOf(g impl.Graph, w impl.Walk) facts {
	return facts{impl.IsValidWalk(g, w), impl.WalkNodes(g, w), impl.WalkEnd(g, w), impl.WalkWord(g, w), impl.IsTrail(g, w), impl.IsSimplePath(g, w)}
}

func sameFacts(a facts, b facts) bool {
	return a.valid == b.valid && slices.Equal(a.nodes, b.nodes) && a.end == b.end && slices.Equal(a.word, b.word) && a.trail == b.trail && a.simple == b.simple
}

func checkFacts(t *testing.T, g impl.Graph, w impl.Walk, want facts) {
	t.Helper()
	if got := factsOf(g, w); !sameFacts(got, want) {
		t.Fatalf("graph %v, walk %v: %+v; want %+v", g, w, got, want)
	}
}

func checkReversed(t *testing.T, g impl.Graph, w impl.Walk, want impl.Walk, wantOk bool) {
	t.Helper()
	if r, ok := impl.ReverseWalk(g, w); ok != wantOk || !sameWalk(r, want) {
		t.Fatalf("ReverseWalk(%v, %v) = %v, %v; want %v, %v", g, w, r, ok, want, wantOk)
	}
}

// checkNoWalk checks the fixed results for a walk that is not valid.
func checkNoWalk(t *testing.T, g impl.Graph, w impl.Walk) {
	t.Helper()
	checkFacts(t, g, w, noFacts)
	checkReversed(t, g, w, impl.Walk{}, false)
}

// wantedFacts follows the walk in a valid graph without the program.
func wantedFacts(g impl.Graph, w impl.Walk) facts {
	if w.Start < 0 || w.Start >= len(g.Values) || len(w.Steps) > 60 {
		return noFacts
	}
	f := facts{valid: true, nodes: []int{w.Start}, end: w.Start, trail: true, simple: true}
	usedEdges := map[int]bool{}
	usedNodes := map[int]bool{w.Start: true}
	for _, s := range w.Steps {
		e := endOf(g, s)
		if e == noEnd || e.from != f.end {
			return noFacts
		}
		f.trail = f.trail && !usedEdges[s.Edge]
		f.simple = f.simple && !usedNodes[e.to]
		usedEdges[s.Edge], usedNodes[e.to] = true, true
		f.nodes, f.word, f.end = append(f.nodes, e.to), append(f.word, e.letter), e.to
	}
	return f
}

func wantedReverse(w impl.Walk, end int) impl.Walk {
	r := impl.Walk{Start: end}
	for i := len(w.Steps) - 1; i >= 0; i-- {
		r.Steps = append(r.Steps, impl.Step{Edge: w.Steps[i].Edge, Inverse: !w.Steps[i].Inverse})
	}
	return r
}

// checkWalk compares everything that is told about a walk in a valid graph with what it should be.
func checkWalk(t *testing.T, g impl.Graph, w impl.Walk) {
	t.Helper()
	want := wantedFacts(g, w)
	if !want.valid {
		checkNoWalk(t, g, w)
		return
	}
	checkFacts(t, g, w, want)
	checkReversed(t, g, w, wantedReverse(w, want.end), true)
}

// walkGraphs returns valid graphs with loops, parallel edges and edges in both directions, whose edges have only these IDs.
func walkGraphs(t *testing.T) []impl.Graph {
	return []impl.Graph{
		graphOf(t, "012"),
		graphOf(t, "0 1:0a0"),
		graphOf(t, "0 1:0a0 2:0b0 99:0c0"),
		graphOf(t, "012 1:0a1 2:1b2 99:2c0"),
		graphOf(t, "012 1:0a1 2:0b1 99:1a0"),
		graphOf(t, "012 1:2a1 2:1b1 99:1c0"),
		graphOf(t, "21012 1:4a0 2:0c3 99:3b4"),
		graphOf(t, "21012 1:4c4 2:3c4 99:2a3"),
	}
}

// eachWalk calls f for all walks of at most length steps of the edges 1, 2, 3 and 99, valid or not; edge 3 does not exist in walkGraphs.
func eachWalk(length int, f func(w impl.Walk)) {
	eachList([]int{1, -1, 2, -2, 3, 99, -99}, length, func(list []int) {
		var steps []impl.Step
		for _, n := range list {
			steps = append(steps, impl.Step{Edge: max(n, -n), Inverse: n < 0})
		}
		for start := -1; start <= 5; start++ {
			f(impl.Walk{Start: start, Steps: steps})
		}
	})
}

func TestWalkConstants(t *testing.T) {
	if impl.MaxSteps != 60 {
		t.Error("constants", impl.MaxSteps)
	}
}

func TestWalks(t *testing.T) {
	g := graphOf(t, "012 1:0a1 2:1b2 3:2c0 4:0a1 5:2b2")
	for s, want := range map[string]facts{
		"0":              {true, []int{0}, 0, nil, true, true},
		"0 1":            {true, []int{0, 1}, 1, []int{0}, true, true},
		"1 1-":           {true, []int{1, 0}, 0, []int{1}, true, true},
		"0 4 2":          {true, []int{0, 1, 2}, 2, []int{0, 2}, true, true},
		"0 3- 2- 1-":     {true, []int{0, 2, 1, 0}, 0, []int{5, 3, 1}, true, false},
		"0 1 2 3":        {true, []int{0, 1, 2, 0}, 0, []int{0, 2, 4}, true, false},
		"0 1 4-":         {true, []int{0, 1, 0}, 0, []int{0, 1}, true, false},
		"0 1 1-":         {true, []int{0, 1, 0}, 0, []int{0, 1}, false, false},
		"0 1 4- 1":       {true, []int{0, 1, 0, 1}, 1, []int{0, 1, 0}, false, false},
		"2 5":            {true, []int{2, 2}, 2, []int{2}, true, false},
		"2 5-":           {true, []int{2, 2}, 2, []int{3}, true, false},
		"2 5 5":          {true, []int{2, 2, 2}, 2, []int{2, 2}, false, false},
		"2 5 5-":         {true, []int{2, 2, 2}, 2, []int{2, 3}, false, false},
		"1 2 5- 3":       {true, []int{1, 2, 2, 0}, 0, []int{2, 3, 4}, true, false},
		"1 2 3 4":        {true, []int{1, 2, 0, 1}, 1, []int{2, 4, 0}, true, false},
		"1 1":            noFacts,
		"0 1-":           noFacts,
		"0 2":            noFacts,
		"0 1 2 2":        noFacts,
		"0 1 3":          noFacts,
		"0 1 2 3 6":      noFacts,
		"0 6 2":          noFacts,
		"3":              noFacts,
		"-1":             noFacts,
		"-1 6":           noFacts,
		"3 1":            noFacts,
		"0 5":            noFacts,
		"0 1 2 5 5- 5 2": noFacts,
	} {
		checkFacts(t, g, walkOf(t, s), want)
		checkWalk(t, g, walkOf(t, s))
	}
}

// A walk without steps is valid at every node of the graph: it reads the empty word and repeats nothing.
func TestWalksWithoutSteps(t *testing.T) {
	for _, g := range stepGraphs(t) {
		for _, node := range stepNodes {
			for _, steps := range [][]impl.Step{nil, {}} {
				w := impl.Walk{Start: node, Steps: steps}
				if node < 0 || node >= len(g.Values) {
					checkNoWalk(t, g, w)
					continue
				}
				checkFacts(t, g, w, facts{valid: true, nodes: []int{node}, end: node, trail: true, simple: true})
				checkReversed(t, g, w, w, true)
			}
		}
	}
}

func TestZeroWalk(t *testing.T) {
	checkNoWalk(t, impl.Graph{}, impl.Walk{})
	checkFacts(t, impl.Graph{Values: []int{0}}, impl.Walk{}, facts{valid: true, nodes: []int{0}, trail: true, simple: true})
	if s := impl.FormatWalk(impl.Walk{}); s != "0" {
		t.Errorf("the format of the zero value is %q", s)
	}
	if order := impl.CompareWalks(impl.Walk{}, impl.Walk{Steps: []impl.Step{}}); order != 0 {
		t.Errorf("the walk without steps compares as %d with itself", order)
	}
}

// All short walks are tried on every graph, whether they exist or not.
func TestAllShortWalks(t *testing.T) {
	for _, g := range walkGraphs(t) {
		valid := 0
		eachWalk(3, func(w impl.Walk) {
			checkWalk(t, g, w)
			if impl.IsValidWalk(g, w) {
				valid++
			}
		})
		if valid < len(g.Values) {
			t.Fatalf("graph %v has only %d walks", g, valid)
		}
	}
}

// randomWalk takes steps of the graph at random, as long as there are any.
func randomWalk(g impl.Graph, r *rand.Rand, length int) impl.Walk {
	w := impl.Walk{Start: r.Intn(len(g.Values))}
	node := w.Start
	for range length {
		steps := wantedSteps(g, node)
		if len(steps) == 0 {
			break
		}
		s := steps[r.Intn(len(steps))]
		w.Steps = append(w.Steps, s)
		node = endOf(g, s).to
	}
	return w
}

func longGraphs(t *testing.T) []impl.Graph {
	return []impl.Graph{
		graphOf(t, "21012 1:4a0 2:3a0 3:2a0 4:1a0 5:0a0 6:0a4 7:0a3 8:0a2 9:0a1 10:4a0 11:0b4 12:4c0"),
		graphOf(t, "012 1:0a1 7:1b2 30:2c0 98:0a0 99:2b1"),
		chain(5, 12, 9, 7), chain(4, 4, 96, 1), chain(2, 1, 50, 1), chain(1, 12, 88, 1),
	}
}

// Long walks are followed with every single step in them replaced, too.
func TestLongWalks(t *testing.T) {
	r := rand.New(rand.NewSource(5))
	for _, g := range longGraphs(t) {
		for length := 0; length <= 60; length += 6 {
			w := randomWalk(g, r, length)
			checkWalk(t, g, w)
			for place := range w.Steps {
				for _, s := range []impl.Step{{}, {Edge: 100}, {Edge: -w.Steps[place].Edge}, {Edge: w.Steps[place].Edge, Inverse: !w.Steps[place].Inverse}, {Edge: 1 + r.Intn(99)}} {
					other := cloneWalk(w)
					other.Steps[place] = s
					checkWalk(t, g, other)
				}
			}
		}
	}
}

// Exactly MaxSteps steps are a walk; one more is not, wherever it leads.
func TestMostSteps(t *testing.T) {
	for _, c := range []struct{ graph, walk string }{
		{"0 1:0a0", "0 1"},
		{"0 1:0a0", "0 1-"},
		{"0 1:0a0", "0 1 1-"},
		{"012 1:0a1 2:1b2 99:2c0", "0 1 1-"},
		{"012 1:0a1 2:1b2 99:2c0", "1 2 99 1"},
		{"012 1:0a1 2:1b2 99:2c0", "2 2- 1- 99-"},
	} {
		g, w := graphOf(t, c.graph), walkOf(t, c.walk)
		for _, length := range []int{59, 60, 61, 62, 120, 1000} {
			long := repeated(w.Start, w.Steps, length)
			if impl.IsValidWalk(g, long) != (length <= 60) {
				t.Errorf("graph %s: %d steps of %s: IsValidWalk = %v", c.graph, length, c.walk, length > 60)
			}
			checkWalk(t, g, long)
			if nodes := impl.WalkNodes(g, long); length <= 60 && len(nodes) != length+1 {
				t.Errorf("graph %s: %d steps of %s have %d nodes", c.graph, length, c.walk, len(nodes))
			}
		}
	}
}

// The longest simple path has all nodes, and the longest trail all edges.
func TestLongestTrails(t *testing.T) {
	g := graphOf(t, "00000 1:0a1 2:1a2 3:2a3 4:3a4 5:4a0")
	checkFacts(t, g, walkOf(t, "0 1 2 3 4"), facts{true, []int{0, 1, 2, 3, 4}, 4, []int{0, 0, 0, 0}, true, true})
	checkFacts(t, g, walkOf(t, "0 1 2 3 4 5"), facts{true, []int{0, 1, 2, 3, 4, 0}, 0, []int{0, 0, 0, 0, 0}, true, false})
	checkFacts(t, g, walkOf(t, "0 1 2 3 4 5 1"), facts{true, []int{0, 1, 2, 3, 4, 0, 1}, 1, []int{0, 0, 0, 0, 0, 0}, false, false})
	loops := chain(1, 12, 88, 1)
	all := impl.Walk{}
	for _, e := range loops.Edges {
		all.Steps = append(all.Steps, impl.Step{Edge: e.ID, Inverse: e.ID%2 == 0})
	}
	if !impl.IsTrail(loops, all) || impl.IsSimplePath(loops, all) {
		t.Error("a walk over all loops is a trail and no simple path")
	}
	for _, s := range all.Steps {
		for _, again := range bothSteps(s.Edge) {
			if w := (impl.Walk{Steps: append(slices.Clone(all.Steps), again)}); impl.IsTrail(loops, w) || !impl.IsValidWalk(loops, w) {
				t.Errorf("a walk over all loops and then over edge %d again is a walk and no trail", s.Edge)
			}
		}
	}
}

// An edge that is repeated counts as such in any two places.
func TestRepeatedEdges(t *testing.T) {
	g := chain(1, 12, 1, 1)
	for length := 2; length <= 12; length++ {
		for second := 1; second < length; second++ {
			for first := range second {
				w := impl.Walk{}
				for i := range length {
					w.Steps = append(w.Steps, impl.Step{Edge: 12 - i})
				}
				if !impl.IsTrail(g, w) {
					t.Fatalf("IsTrail(%v) = false", w)
				}
				w.Steps[second] = impl.Step{Edge: w.Steps[first].Edge, Inverse: second%2 == 0}
				if impl.IsTrail(g, w) {
					t.Fatalf("IsTrail(%v) = true", w)
				}
			}
		}
	}
}

func TestWalksOfInvalidGraphs(t *testing.T) {
	for _, g := range invalidGraphs(t) {
		for _, node := range stepNodes {
			checkNoWalk(t, g, impl.Walk{Start: node})
		}
		checkNoWalk(t, g, walkOf(t, "0 1"))
		checkNoWalk(t, g, walkOf(t, "0 1 2 5"))
		checkNoWalk(t, g, repeated(0, stepsOf(t, "1 1-"), 60))
		for _, e := range g.Edges {
			for _, s := range bothSteps(e.ID) {
				checkNoWalk(t, g, impl.Walk{Start: e.From, Steps: []impl.Step{s}})
				checkNoWalk(t, g, impl.Walk{Start: e.To, Steps: []impl.Step{s}})
			}
		}
	}
}

func TestWalksThatStartOutside(t *testing.T) {
	for _, g := range validGraphs(t) {
		for _, node := range append(slices.Clone(stepNodes), len(g.Values)) {
			if node >= 0 && node < len(g.Values) {
				continue
			}
			checkNoWalk(t, g, impl.Walk{Start: node})
			for id := -1; id <= 100; id++ {
				for _, s := range bothSteps(id) {
					checkNoWalk(t, g, impl.Walk{Start: node, Steps: []impl.Step{s}})
				}
			}
		}
	}
}

// numbersOutside are just outside the range of an edge ID, or far away from it.
var numbersOutside = []int{0, 100, -1, 101, -99, -100, 1 << 32, 1<<32 + 1, math.MinInt, math.MaxInt}

// A step of an edge that does not exist spoils the walk in any place, also behind the last step.
func TestWalksOfEdgesThatDoNotExist(t *testing.T) {
	g := graphOf(t, "012 1:0a1 2:1b2 3:2c0 98:0a0 99:0a1")
	w := walkOf(t, "0 1 2 3 98 98- 99 2 3 99")
	checkWalk(t, g, w)
	for place := range len(w.Steps) + 1 {
		for _, id := range append([]int{4, 97}, numbersOutside...) {
			for _, s := range bothSteps(id) {
				inserted := cloneWalk(w)
				inserted.Steps = slices.Insert(inserted.Steps, place, s)
				checkNoWalk(t, g, inserted)
				if place < len(w.Steps) {
					replaced := cloneWalk(w)
					replaced.Steps[place] = s
					checkNoWalk(t, g, replaced)
				}
			}
		}
	}
}

// Every step must begin where the previous one ends, the first one at Start; this includes the last one.
func TestWalksThatDoNotConnect(t *testing.T) {
	g := graphOf(t, "00000 1:0a1 2:1a2 3:2a3 4:3a4 5:4a0")
	w := repeated(0, stepsOf(t, "1 2 3 4 5"), 60)
	checkWalk(t, g, w)
	for start := 1; start <= 4; start++ {
		checkNoWalk(t, g, impl.Walk{Start: start, Steps: w.Steps})
	}
	for place := range w.Steps {
		turned := cloneWalk(w)
		turned.Steps[place].Inverse = true
		checkNoWalk(t, g, turned)
		// Without a step there is a gap, unless it was the last one.
		if place < len(w.Steps)-1 {
			checkNoWalk(t, g, impl.Walk{Steps: slices.Delete(slices.Clone(w.Steps), place, place+1)})
		}
		for id := 1; id <= 5; id++ {
			other := cloneWalk(w)
			other.Steps[place].Edge = id
			if id != w.Steps[place].Edge {
				checkNoWalk(t, g, other)
			}
		}
	}
}

func TestReverseWalk(t *testing.T) {
	g := graphOf(t, "012 1:0a1 2:1b2 3:2c0 4:0a1 5:2b2")
	for s, want := range map[string]string{
		"0":          "0",
		"2":          "2",
		"0 1":        "1 1-",
		"1 1-":       "0 1",
		"0 1 2":      "2 2- 1-",
		"0 1 2 3":    "0 3- 2- 1-",
		"2 5":        "2 5-",
		"2 5-":       "2 5",
		"1 2 5- 5 3": "0 3- 5- 5 2-",
		"0 4 1-":     "0 1 4-",
	} {
		checkReversed(t, g, walkOf(t, s), walkOf(t, want), true)
	}
	for _, s := range []string{"0 2", "0 1 2 2", "3", "0 6", "-1", "5 1", "0 1-"} {
		checkReversed(t, g, walkOf(t, s), impl.Walk{}, false)
	}
}

// checkReversal checks what must hold for a valid walk and its reverse, by the program's own functions.
func checkReversal(t *testing.T, g impl.Graph, w impl.Walk) {
	t.Helper()
	r, ok := impl.ReverseWalk(g, w)
	if !ok || !impl.IsValidWalk(g, r) || r.Start != impl.WalkEnd(g, w) || impl.WalkEnd(g, r) != w.Start {
		t.Fatalf("graph %v: the reverse of %v is %v, %v", g, w, r, ok)
	}
	if !slices.Equal(impl.WalkWord(g, r), impl.ReverseWord(impl.WalkWord(g, w))) {
		t.Fatalf("graph %v: %v reads %v, its reverse %v reads %v", g, w, impl.WalkWord(g, w), r, impl.WalkWord(g, r))
	}
	nodes := impl.WalkNodes(g, r)
	slices.Reverse(nodes)
	if !slices.Equal(nodes, impl.WalkNodes(g, w)) || impl.IsTrail(g, r) != impl.IsTrail(g, w) || impl.IsSimplePath(g, r) != impl.IsSimplePath(g, w) {
		t.Fatalf("graph %v: %v and its reverse %v differ", g, w, r)
	}
	if twice, ok := impl.ReverseWalk(g, r); !ok || !sameWalk(twice, w) {
		t.Fatalf("graph %v: the reverse of the reverse of %v is %v, %v", g, w, twice, ok)
	}
	if impl.IsSimplePath(g, w) && !impl.IsTrail(g, w) {
		t.Fatalf("graph %v: the simple path %v is no trail", g, w)
	}
}

func TestReversedWalksReadReversedWords(t *testing.T) {
	for _, g := range walkGraphs(t) {
		eachWalk(3, func(w impl.Walk) {
			if impl.IsValidWalk(g, w) {
				checkReversal(t, g, w)
			}
		})
	}
	r := rand.New(rand.NewSource(55))
	for _, g := range longGraphs(t) {
		for length := range 61 {
			checkReversal(t, g, randomWalk(g, r, length))
		}
	}
}

func checkWalksCompared(t *testing.T, a impl.Walk, b impl.Walk, want int) {
	t.Helper()
	if order := impl.CompareWalks(a, b); order != want {
		t.Fatalf("CompareWalks(%v, %v) = %d; want %d", a, b, order, want)
	}
	if order := impl.CompareWalks(b, a); order != -want {
		t.Fatalf("CompareWalks(%v, %v) = %d; want %d", b, a, order, -want)
	}
}

func TestCompareWalks(t *testing.T) {
	for _, c := range []struct {
		a, b string
		want int
	}{
		{"0", "0", 0},
		{"0", "1", -1},
		{"4", "0 1", -1},
		{"-1", "0", -1},
		{"9", "100", -1},
		{"5", "-3 1", -1},
		{"0 1", "0 1", 0},
		{"0 1", "0 1-", -1},
		{"0 1-", "0 2", -1},
		{"0 1-", "0 1-", 0},
		{"0 9", "0 10", -1},
		{"0 99-", "1 1", -1},
		{"0 99", "0 1 1", -1},
		{"3 99-", "0 1 1", -1},
		{"0 1 2", "0 1 2-", -1},
		{"0 1 2-", "0 1- 1", -1},
		{"0 1 99-", "0 1- 1", -1},
		{"0 1- 2", "0 2 1", -1},
		{"0 1 2 3", "0 1 2 3", 0},
		{"0 1 2 3-", "0 1 2 4", -1},
		{"0 -1", "0 0", -1},
		{"0 0-", "0 1", -1},
		{"0 99-", "0 100", -1},
		{"0 1000", "0 0 0", -1},
	} {
		checkWalksCompared(t, walkOf(t, c.a), walkOf(t, c.b), c.want)
	}
}

// The order has no condition on the walks: the numbers are any, and so is the number of steps.
func TestCompareWalksIsTotalOrder(t *testing.T) {
	var choices []impl.Step
	for _, id := range []int{math.MinInt, -1, 0, 1, 99, 100, math.MaxInt} {
		choices = append(choices, bothSteps(id)...)
	}
	layers := [][]impl.Step{nil}
	var walks []impl.Walk
	for range 3 {
		for _, start := range []int{math.MinInt, -1, 0, 4, 5, math.MaxInt} {
			for _, steps := range layers {
				walks = append(walks, impl.Walk{Start: start, Steps: steps})
			}
		}
		var next [][]impl.Step
		for _, steps := range layers {
			for _, s := range choices {
				next = append(next, append(slices.Clone(steps), s))
			}
		}
		layers = next
	}
	// By their numbers of steps, then by Start, then by their steps, the walks come in ascending order.
	for i, a := range walks {
		checkWalksCompared(t, a, cloneWalk(a), 0)
		for _, b := range walks[i+1:] {
			checkWalksCompared(t, a, b, -1)
		}
	}
}

func TestCompareLongWalks(t *testing.T) {
	step := []impl.Step{{Edge: 7}}
	for _, length := range []int{1, 2, 59, 60, 61, 62, 500} {
		w := repeated(2, step, length)
		checkWalksCompared(t, w, repeated(2, step, length), 0)
		checkWalksCompared(t, w, repeated(0, step, length+1), -1)
		checkWalksCompared(t, w, repeated(3, []impl.Step{{Edge: 1}}, length), -1)
		for place := range length {
			greater := cloneWalk(w)
			greater.Steps[place].Inverse = true
			checkWalksCompared(t, w, greater, -1)
			if place+1 < length {
				greater.Steps[place+1].Edge = 1
				checkWalksCompared(t, w, greater, -1)
			}
			greater.Steps[place] = impl.Step{Edge: 6, Inverse: true}
			checkWalksCompared(t, w, greater, 1)
		}
	}
}

func checkParsedWalk(t *testing.T, s string, want impl.Walk, wantOk bool) {
	t.Helper()
	if w, ok := impl.ParseWalk(s); ok != wantOk || !sameWalk(w, want) {
		t.Fatalf("ParseWalk(%q) = %v, %v; want %v, %v", s, w, ok, want, wantOk)
	}
}

// spelledWalk writes a walk by the names of its numbers.
func spelledWalk(w impl.Walk) string {
	s := strconv.Itoa(w.Start)
	for _, step := range w.Steps {
		s += " " + strconv.Itoa(step.Edge)
		if step.Inverse {
			s += "-"
		}
	}
	return s
}

func checkWalkRoundTrip(t *testing.T, w impl.Walk) {
	t.Helper()
	if s := impl.FormatWalk(w); s != spelledWalk(w) {
		t.Fatalf("FormatWalk(%v) = %q", w, s)
	}
	checkParsedWalk(t, spelledWalk(w), w, true)
}

func TestFormatWalk(t *testing.T) {
	for _, c := range []struct {
		walk impl.Walk
		want string
	}{
		{impl.Walk{Steps: []impl.Step{{Edge: 3, Inverse: true}, {Edge: 2}}}, "0 3- 2"},
		{impl.Walk{}, "0"},
		{impl.Walk{Start: 4, Steps: []impl.Step{}}, "4"},
		{impl.Walk{Start: 1, Steps: []impl.Step{{Edge: 1}}}, "1 1"},
		{impl.Walk{Start: 2, Steps: []impl.Step{{Edge: 99, Inverse: true}}}, "2 99-"},
		{impl.Walk{Start: 3, Steps: []impl.Step{{Edge: 9}, {Edge: 10}, {Edge: 10, Inverse: true}}}, "3 9 10 10-"},
	} {
		if s := impl.FormatWalk(c.walk); s != c.want {
			t.Errorf("FormatWalk(%v) = %q; want %q", c.walk, s, c.want)
		}
		checkParsedWalk(t, c.want, c.walk, true)
	}
}

// Whether there is a graph in which the walk is valid does not matter to its format.
func TestWalkRoundTrip(t *testing.T) {
	for start := range 5 {
		checkWalkRoundTrip(t, impl.Walk{Start: start})
		for first := 1; first <= 99; first++ {
			for _, s := range bothSteps(first) {
				checkWalkRoundTrip(t, impl.Walk{Start: start, Steps: []impl.Step{s}})
				for second := 1; second <= 99; second += 7 {
					for _, s2 := range bothSteps(second) {
						checkWalkRoundTrip(t, impl.Walk{Start: start, Steps: []impl.Step{s, s2}})
					}
				}
			}
		}
	}
	r := rand.New(rand.NewSource(555))
	for length := range 61 {
		for range 20 {
			w := impl.Walk{Start: r.Intn(5)}
			for range length {
				w.Steps = append(w.Steps, impl.Step{Edge: 1 + r.Intn(99), Inverse: r.Intn(2) == 0})
			}
			checkWalkRoundTrip(t, w)
		}
	}
}

// A valid walk always has a format.
func TestValidWalksHaveFormats(t *testing.T) {
	for _, g := range walkGraphs(t) {
		eachWalk(2, func(w impl.Walk) {
			if impl.IsValidWalk(g, w) {
				checkWalkRoundTrip(t, w)
			}
		})
	}
}

func TestFormatWalkInvalid(t *testing.T) {
	check := func(w impl.Walk) {
		t.Helper()
		if s := impl.FormatWalk(w); s != "" {
			t.Fatalf("FormatWalk(%v) = %q; want the empty string", w, s)
		}
	}
	for _, start := range []int{-1, 5, 6, 10, -5, 1 << 32, math.MinInt, math.MaxInt} {
		check(impl.Walk{Start: start})
		check(impl.Walk{Start: start, Steps: []impl.Step{{Edge: 1}}})
	}
	for _, length := range []int{1, 2, 3, 60} {
		for place := range length {
			for _, id := range numbersOutside {
				for _, s := range bothSteps(id) {
					w := repeated(0, []impl.Step{{Edge: 1}}, length)
					w.Steps[place] = s
					check(w)
				}
			}
		}
	}
}

// The format has at most MaxSteps steps, in both directions.
func TestFormatsOfMostSteps(t *testing.T) {
	for _, s := range []impl.Step{{Edge: 1}, {Edge: 99, Inverse: true}} {
		for _, length := range []int{59, 60, 61, 62, 1000} {
			w := repeated(4, []impl.Step{s}, length)
			if length <= 60 {
				checkWalkRoundTrip(t, w)
				continue
			}
			if f := impl.FormatWalk(w); f != "" {
				t.Errorf("the format of %d steps is %q", length, f)
			}
			checkParsedWalk(t, spelledWalk(w), impl.Walk{}, false)
		}
	}
	longest := spelledWalk(repeated(0, []impl.Step{{Edge: 1}}, 60))
	for _, more := range []string{" ", "  ", "-", "-- ", "0", "00", " 0", " 1", " 1-", " 100", " x", " 1 1", " 1 x", "\n", "\x00"} {
		s := longest + more
		if more == "-" || more == "0" {
			// These belong to the last step, which becomes 1- or 10.
			w, ok := impl.ParseWalk(s)
			if !ok || impl.FormatWalk(w) != s {
				t.Errorf("ParseWalk(%q) = %v, %v", s, w, ok)
			}
			continue
		}
		checkParsedWalk(t, s, impl.Walk{}, false)
	}
}

func TestParseWalkInvalid(t *testing.T) {
	for _, s := range []string{
		"", " ", "  ", "-", "--", "x", "()", "none", "\x00", "\n",
		"5", "9", "10", "00", "01", "-0", "-1", "+0", "0-", "0x", "x0", "0\x00", "0\n", "0.", "\xff", "\u0660", "\uff10", "0\u00a0",
		" 0", "0 ", "0  ", " 0 1", "0 1 ", "0  1", "0 1  2", "0 1 2 ", "\t0", "0\t1", "0\n1", "0,1", "0\u00a01", "01 1", "0:1", "0 1\n", "0 1\x00",
		"5 1", "-1 1", "00 1", "0- 1", "+0 1", "x 1", " 1", "10 1",
		"0 0", "0 0-", "0 00", "0 01", "0 01-", "0 001", "0 100", "0 100-", "0 999", "0 1000000000", "0 10000000000000000000", "0 4294967297", "0 18446744073709551617",
		"0 -", "0 --", "0 - 1", "0 1 -", "0 -1", "0 +1", "0 1+", "0 1--", "0 -1-", "0 1 --1", "0 1 2--", "0 1- -", "0 1 2 -3", "0 1-2", "0 1 - 2", "0 1-2-",
		"0 a", "0 1a", "0 a1", "0 1:0a1", "0 0x1", "0 1.", "0 1_0", "0 1e1", "0 \uff11", "0 1\u2212", "0 \xff", "0 1\xff",
		strings.Repeat("0", 1000), strings.Repeat(" ", 1000), "0" + strings.Repeat(" ", 60), "0 " + strings.Repeat("1", 1000), "0" + strings.Repeat(" 1", 100000),
	} {
		checkParsedWalk(t, s, impl.Walk{}, false)
	}
}

var walkFormat = regexp.MustCompile(`^[0-4]( [1-9][0-9]?-?){0,60}$`)

// checkWalkAccepted accepts the string exactly if it has the form of a format; then it must be the format of what was read.
func checkWalkAccepted(t *testing.T, s string) {
	t.Helper()
	w, ok := impl.ParseWalk(s)
	if ok != walkFormat.MatchString(s) {
		t.Fatalf("ParseWalk(%q) = %v, %v", s, w, ok)
	}
	if ok && (spelledWalk(w) != s || impl.FormatWalk(w) != s) || !ok && !sameWalk(w, impl.Walk{}) {
		t.Fatalf("ParseWalk(%q) = %v, %v", s, w, ok)
	}
}

func TestParseWalkAcceptsNothingElse(t *testing.T) {
	check := func(s string) { checkWalkAccepted(t, s) }
	eachString(allBytes(), 2, check)
	eachString(" -+01459a\x00\n", 5, check)
	eachString(" -04", 8, check)
	for _, s := range []string{"0", "4 9", "0 3- 2", "3 10 99- 99", spelledWalk(repeated(1, []impl.Step{{Edge: 42, Inverse: true}}, 60))} {
		eachStringNear(s, check)
	}
}

// roomyWalk returns the walk with unused capacity in its list, and the memory behind it.
func roomyWalk(w impl.Walk) (impl.Walk, []impl.Step) {
	memory := slices.Repeat([]impl.Step{{Edge: 77, Inverse: true}}, len(w.Steps)+10)
	copy(memory, w.Steps)
	return impl.Walk{Start: w.Start, Steps: memory[:len(w.Steps)]}, memory
}

func someWalks(t *testing.T) []impl.Walk {
	return []impl.Walk{
		{}, {Start: 9}, walkOf(t, "0 1"), walkOf(t, "1 1-"), walkOf(t, "0 1 2"), walkOf(t, "0 1 2 5"), walkOf(t, "0 9 2 98 98-"),
		walkOf(t, "0 9 1- 9"), walkOf(t, "0 5"), walkOf(t, "0 1 100"), repeated(0, stepsOf(t, "1 1-"), 60), repeated(0, stepsOf(t, "1 2 5"), 61),
	}
}

func TestWalkArgumentsStay(t *testing.T) {
	for _, g := range append(invalidGraphs(t), graphOf(t, goodGraph)) {
		for _, w := range someWalks(t) {
			graph, graphMemory := roomyGraph(g)
			walk, walkMemory := roomyWalk(w)
			graphBefore, walkBefore := cloneGraph(graphMemory), slices.Clone(walkMemory)
			f := factsOf(graph, walk)
			scribbleNodes(f.nodes)
			scribbleNodes(f.word)
			r, _ := impl.ReverseWalk(graph, walk)
			scribbleSteps(r.Steps)
			impl.CompareWalks(walk, walk)
			impl.CompareWalks(walk, impl.Walk{Steps: walk.Steps[:len(walk.Steps)/2]})
			impl.FormatWalk(walk)
			if !sameGraph(graphMemory, graphBefore) || !slices.Equal(walkMemory, walkBefore) {
				t.Fatalf("the arguments %v and %v have changed", g, w)
			}
		}
	}
}

func TestWalkResultsAreNewMemory(t *testing.T) {
	g := graphOf(t, goodGraph)
	for _, w := range someWalks(t) {
		graph, graphMemory := roomyGraph(g)
		walk, walkMemory := roomyWalk(w)
		first := factsOf(graph, walk)
		reversed, ok := impl.ReverseWalk(graph, walk)
		again := factsOf(graph, walk)
		scribbleNodes(again.nodes)
		scribbleNodes(again.word)
		reversedAgain, _ := impl.ReverseWalk(graph, walk)
		scribbleSteps(reversedAgain.Steps)
		scribble(graphMemory)
		scribbleSteps(walkMemory)
		want := wantedFacts(g, w)
		if !sameFacts(first, want) {
			t.Fatalf("the results for %v share memory: %+v", w, first)
		}
		if ok != want.valid || ok && !sameWalk(reversed, wantedReverse(w, want.end)) {
			t.Fatalf("the reverse of %v shares memory: %v", w, reversed)
		}
	}
}

func TestParseWalkIsNewMemory(t *testing.T) {
	for _, s := range []string{"0", "0 3- 2", "4 99 98- 97", spelledWalk(repeated(1, []impl.Step{{Edge: 42, Inverse: true}}, 60))} {
		first, _ := impl.ParseWalk(s)
		second, _ := impl.ParseWalk(s)
		scribbleSteps(first.Steps)
		third, ok := impl.ParseWalk(s)
		if !ok || spelledWalk(second) != s || spelledWalk(third) != s {
			t.Errorf("the results of ParseWalk(%q) share memory", s)
		}
	}
}
