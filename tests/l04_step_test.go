package tests

import (
	"math"
	"slices"
	"strconv"
	"strings"
	"testing"

	"loop.example/g01922/impl"
)

// stepsOf reads steps in the format that the specification uses in walks: an edge ID, and - if the step is inverse.
func stepsOf(t *testing.T, s string) []impl.Step {
	t.Helper()
	var steps []impl.Step
	for _, field := range strings.Fields(s) {
		digits, inverse := strings.CutSuffix(field, "-")
		id, err := strconv.Atoi(digits)
		if err != nil {
			t.Fatal(err)
		}
		steps = append(steps, impl.Step{Edge: id, Inverse: inverse})
	}
	return steps
}

// end is what StepFrom, StepTo and StepLetter tell about a step.
type end struct{ from, to, letter int }

// noEnd belongs to a step that does not exist.
var noEnd = end{-1, -1, -1}

func checkStep(t *testing.T, g impl.Graph, s impl.Step, want end) {
	t.Helper()
	if got := (end{impl.StepFrom(g, s), impl.StepTo(g, s), impl.StepLetter(g, s)}); got != want {
		t.Fatalf("graph %v, step %v: from, to and letter are %v; want %v", g, s, got, want)
	}
}

// endOf finds the ends of a step in a valid graph without the program.
func endOf(g impl.Graph, s impl.Step) end {
	for _, e := range g.Edges {
		switch {
		case e.ID != s.Edge:
		case s.Inverse:
			return end{e.To, e.From, 2*e.Label + 1}
		default:
			return end{e.From, e.To, 2 * e.Label}
		}
	}
	return noEnd
}

func bothSteps(id int) []impl.Step {
	return []impl.Step{{Edge: id}, {Edge: id, Inverse: true}}
}

// The nodes and letters that are tried on every graph, valid or not.
var stepNodes = []int{math.MinInt, -2, -1, 0, 1, 2, 3, 4, 5, 6, 1 << 32, math.MaxInt}

var stepLetters = append([]int{0, 1, 2, 3, 4, 5, 6, 7, 8}, noLetters...)

// wantedSteps lists the steps that begin at a node, by going through all IDs.
func wantedSteps(g impl.Graph, node int) []impl.Step {
	var steps []impl.Step
	for id := 1; id <= impl.MaxEdgeID; id++ {
		for _, s := range bothSteps(id) {
			if e := endOf(g, s); e != noEnd && e.from == node {
				steps = append(steps, s)
			}
		}
	}
	return steps
}

// wantedWith keeps the steps that read the letter.
func wantedWith(g impl.Graph, steps []impl.Step, letter int) []impl.Step {
	return slices.DeleteFunc(slices.Clone(steps), func(s impl.Step) bool { return endOf(g, s).letter != letter })
}

// wantedNodes lists the nodes at which the steps end.
func wantedNodes(g impl.Graph, steps []impl.Step) []int {
	var nodes []int
	for node := range impl.MaxNodes {
		if slices.ContainsFunc(steps, func(s impl.Step) bool { return endOf(g, s).to == node }) {
			nodes = append(nodes, node)
		}
	}
	return nodes
}

func checkListsAt(t *testing.T, g impl.Graph, node int) {
	t.Helper()
	all := wantedSteps(g, node)
	if l := impl.StepsFrom(g, node); !slices.Equal(l, all) {
		t.Fatalf("StepsFrom(%v, %d) = %v; want %v", g, node, l, all)
	}
	for _, letter := range stepLetters {
		steps := wantedWith(g, all, letter)
		if l := impl.StepsWith(g, node, letter); !slices.Equal(l, steps) {
			t.Fatalf("StepsWith(%v, %d, %d) = %v; want %v", g, node, letter, l, steps)
		}
		if l, nodes := impl.NodesAfter(g, node, letter), wantedNodes(g, steps); !slices.Equal(l, nodes) {
			t.Fatalf("NodesAfter(%v, %d, %d) = %v; want %v", g, node, letter, l, nodes)
		}
	}
}

func checkHolds(t *testing.T, g impl.Graph, node int, letter int, want bool) {
	t.Helper()
	if impl.HoldsAt(g, node, letter) != want {
		t.Fatalf("HoldsAt(%v, %d, %d) = %v", g, node, letter, !want)
	}
}

// smallGraphs returns all graphs of at most three nodes with two edges.
func smallGraphs() []impl.Graph {
	var list []impl.Graph
	for nodes := 1; nodes <= 3; nodes++ {
		var edges []impl.Edge
		for n := range nodes * nodes * impl.MaxLabels {
			edges = append(edges, impl.Edge{From: n % nodes, To: n / nodes % nodes, Label: n / nodes / nodes})
		}
		for _, first := range edges {
			for _, second := range edges {
				first.ID, second.ID = 9, 10
				list = append(list, impl.Graph{Values: make([]int, nodes), Edges: []impl.Edge{first, second}})
			}
		}
	}
	return list
}

// stepGraphs returns valid graphs with loops, parallel edges and edges in both directions.
func stepGraphs(t *testing.T) []impl.Graph {
	list := append(validGraphs(t),
		graphOf(t, "012 3:1a1 7:1a1 8:1b1 9:1a2 10:2a1"),
		graphOf(t, "0 1:0a0 2:0b0 3:0c0 97:0a0 98:0b0 99:0c0"),
		graphOf(t, "21012 1:4a0 2:3a0 3:2a0 4:1a0 5:0a0 6:0a4 7:0a3 8:0a2 9:0a1 10:4a0 11:0b4 12:4c0"),
	)
	return append(list, smallGraphs()...)
}

func TestSteps(t *testing.T) {
	g := graphOf(t, "012 1:0a1 2:1b2 3:2c0 4:0a1")
	for s, want := range map[string]end{
		"1": {0, 1, 0}, "1-": {1, 0, 1},
		"2": {1, 2, 2}, "2-": {2, 1, 3},
		"3": {2, 0, 4}, "3-": {0, 2, 5},
		"4": {0, 1, 0}, "4-": {1, 0, 1},
		"5": noEnd, "5-": noEnd, "99": noEnd, "0": noEnd, "0-": noEnd,
	} {
		checkStep(t, g, stepsOf(t, s)[0], want)
	}
	for _, g := range stepGraphs(t) {
		for id := 1; id <= impl.MaxEdgeID; id++ {
			for _, s := range bothSteps(id) {
				checkStep(t, g, s, endOf(g, s))
			}
		}
	}
}

// A loop has two steps, which differ in their letters only.
func TestStepsOfLoop(t *testing.T) {
	g := graphOf(t, "012 5:1b1")
	checkStep(t, g, impl.Step{Edge: 5}, end{1, 1, 2})
	checkStep(t, g, impl.Step{Edge: 5, Inverse: true}, end{1, 1, 3})
	if l := impl.StepsFrom(g, 1); !slices.Equal(l, stepsOf(t, "5 5-")) {
		t.Errorf("the steps of a loop are %v", l)
	}
	if l := impl.StepsWith(g, 1, 2); !slices.Equal(l, stepsOf(t, "5")) {
		t.Errorf("the steps of a loop with its letter are %v", l)
	}
	if l := impl.StepsWith(g, 1, 3); !slices.Equal(l, stepsOf(t, "5-")) {
		t.Errorf("the steps of a loop with the inverse letter are %v", l)
	}
	for _, letter := range []int{2, 3} {
		if l := impl.NodesAfter(g, 1, letter); !slices.Equal(l, []int{1}) {
			t.Errorf("the nodes after letter %d of a loop are %v", letter, l)
		}
	}
	for _, node := range []int{0, 2} {
		if l := impl.StepsFrom(g, node); len(l) != 0 {
			t.Errorf("node %d has the steps %v of a loop elsewhere", node, l)
		}
	}
}

func TestStepsOfEdgesThatDoNotExist(t *testing.T) {
	for _, g := range stepGraphs(t) {
		for _, id := range []int{0, -1, -2, -99, 100, 101, 1 << 32, 1<<32 + 1, math.MinInt, math.MaxInt} {
			for _, s := range bothSteps(id) {
				checkStep(t, g, s, noEnd)
			}
		}
	}
}

// Nothing can be said about the steps of an invalid graph, even if the edge itself is as it should be.
func TestStepsOfInvalidGraphs(t *testing.T) {
	for _, g := range invalidGraphs(t) {
		ids := []int{-1, 0, 1, 2, 99, 100}
		for _, e := range g.Edges {
			ids = append(ids, e.ID)
		}
		for _, id := range ids {
			for _, s := range bothSteps(id) {
				checkStep(t, g, s, noEnd)
			}
		}
		for _, node := range stepNodes {
			if l := impl.StepsFrom(g, node); len(l) != 0 {
				t.Errorf("StepsFrom(%v, %d) = %v", g, node, l)
			}
			for _, letter := range stepLetters {
				if l := impl.StepsWith(g, node, letter); len(l) != 0 {
					t.Errorf("StepsWith(%v, %d, %d) = %v", g, node, letter, l)
				}
				if l := impl.NodesAfter(g, node, letter); len(l) != 0 {
					t.Errorf("NodesAfter(%v, %d, %d) = %v", g, node, letter, l)
				}
				checkHolds(t, g, node, letter, false)
			}
		}
	}
}

func TestStepsFromOrder(t *testing.T) {
	for _, c := range []struct {
		graph string
		node  int
		want  string
	}{
		{"012 1:0a1 2:1b2 3:2a0 4:0a1", 0, "1 3- 4"},
		{"012 1:0a1 2:1b2 3:2a0 4:0a1", 1, "1- 2 4-"},
		{"012 1:0a1 2:1b2 3:2a0 4:0a1", 2, "2- 3"},
		{"01 1:1c0 2:0a0 3:0b1 4:0a0 99:1a0", 0, "1- 2 2- 3 4 4- 99-"},
		{"01 1:1c0 2:0a0 3:0b1 4:0a0 99:1a0", 1, "1 3- 99"},
		{"01 9:0a0 10:0c0 11:0b0", 0, "9 9- 10 10- 11 11-"},
		{"01 9:0a0 10:0c0 11:0b0", 1, ""},
		{"0", 0, ""},
	} {
		if l := impl.StepsFrom(graphOf(t, c.graph), c.node); !slices.Equal(l, stepsOf(t, c.want)) {
			t.Errorf("StepsFrom(%s, %d) = %v; want %s", c.graph, c.node, l, c.want)
		}
	}
}

func TestStepsWith(t *testing.T) {
	g := graphOf(t, "012 1:0a1 2:0a0 3:1a0 4:0b2 5:0a2 6:0a1 7:2b0 8:0b2")
	for letter, want := range []string{"1 2 5 6", "2- 3-", "4 8", "7-", "", "", "", "", ""} {
		if l := impl.StepsWith(g, 0, letter); !slices.Equal(l, stepsOf(t, want)) {
			t.Errorf("StepsWith(_, 0, %d) = %v; want %s", letter, l, want)
		}
	}
}

func TestNodesAfter(t *testing.T) {
	// The edges lead to their nodes in descending order, and to some of them twice.
	g := graphOf(t, "00000 1:0a4 2:0a3 3:0a3 4:0a1 5:0a0 6:0a4 7:4b0 8:2b0 9:4b0 10:1c0")
	for letter, want := range [][]int{{0, 1, 3, 4}, {0}, {}, {2, 4}, {}, {1}, {}, {}, {}} {
		if l := impl.NodesAfter(g, 0, letter); !slices.Equal(l, want) {
			t.Errorf("NodesAfter(_, 0, %d) = %v; want %v", letter, l, want)
		}
	}
}

// All nodes and letters are tried, also those that are outside the graph or no letters.
func TestStepLists(t *testing.T) {
	for _, g := range stepGraphs(t) {
		for _, node := range stepNodes {
			checkListsAt(t, g, node)
		}
	}
}

func TestNodesOutsideHaveNoSteps(t *testing.T) {
	for _, g := range stepGraphs(t) {
		for _, node := range stepNodes {
			if node >= 0 && node < len(g.Values) {
				continue
			}
			if l := impl.StepsFrom(g, node); len(l) != 0 {
				t.Fatalf("StepsFrom(%v, %d) = %v", g, node, l)
			}
			for _, letter := range stepLetters {
				if impl.HoldsAt(g, node, letter) || len(impl.StepsWith(g, node, letter)) != 0 || len(impl.NodesAfter(g, node, letter)) != 0 {
					t.Fatalf("graph %v: node %d has something to do with letter %d", g, node, letter)
				}
			}
		}
	}
}

// A test of a value is no move, so no step reads it.
func TestLettersOfValuesHaveNoSteps(t *testing.T) {
	for _, g := range stepGraphs(t) {
		for node := range g.Values {
			for _, letter := range append([]int{6, 7, 8}, noLetters...) {
				if l := impl.StepsWith(g, node, letter); len(l) != 0 {
					t.Fatalf("StepsWith(%v, %d, %d) = %v", g, node, letter, l)
				}
				if l := impl.NodesAfter(g, node, letter); len(l) != 0 {
					t.Fatalf("NodesAfter(%v, %d, %d) = %v", g, node, letter, l)
				}
			}
		}
	}
}

func TestHoldsAt(t *testing.T) {
	for _, g := range append(validGraphs(t), graphOf(t, "21012 1:4a0"), graphOf(t, "2"), graphOf(t, "1"), graphOf(t, "0")) {
		for _, node := range stepNodes {
			for _, letter := range stepLetters {
				checkHolds(t, g, node, letter, node >= 0 && node < len(g.Values) && letter == 6+g.Values[node])
			}
		}
	}
	g := graphOf(t, "012 1:0a1 2:1b2")
	for node := range 3 {
		for letter := -1; letter <= 10; letter++ {
			checkHolds(t, g, node, letter, letter == 6+node)
		}
	}
}

// The inverse step goes back and reads the inverse letter; in the reversed graph the same step goes back and reads the same letter.
func TestInverseSteps(t *testing.T) {
	for _, g := range stepGraphs(t) {
		reversed := impl.ReverseGraph(g)
		for node := range g.Values {
			for _, s := range impl.StepsFrom(g, node) {
				from, to, letter := impl.StepFrom(g, s), impl.StepTo(g, s), impl.StepLetter(g, s)
				if from != node {
					t.Fatalf("graph %v: step %v is from %d and in the list of %d", g, s, from, node)
				}
				back := impl.Step{Edge: s.Edge, Inverse: !s.Inverse}
				checkStep(t, g, back, end{to, from, impl.InverseLetter(letter)})
				checkStep(t, reversed, s, end{to, from, letter})
				if !slices.Contains(impl.StepsFrom(g, to), back) || !slices.Contains(impl.NodesAfter(g, to, impl.InverseLetter(letter)), node) {
					t.Fatalf("graph %v: step %v does not lead back", g, back)
				}
			}
		}
	}
}

func TestStepArgumentsStay(t *testing.T) {
	for _, g := range append(validGraphs(t), invalidGraphs(t)...) {
		argument, memory := roomyGraph(g)
		before := cloneGraph(memory)
		for _, id := range []int{-1, 0, 1, 2, 99} {
			for _, s := range bothSteps(id) {
				impl.StepFrom(argument, s)
				impl.StepTo(argument, s)
				impl.StepLetter(argument, s)
			}
		}
		for node := -1; node <= 5; node++ {
			scribbleSteps(impl.StepsFrom(argument, node))
			for letter := -1; letter <= 9; letter++ {
				scribbleSteps(impl.StepsWith(argument, node, letter))
				scribbleNodes(impl.NodesAfter(argument, node, letter))
				impl.HoldsAt(argument, node, letter)
			}
		}
		if !sameGraph(memory, before) {
			t.Fatalf("the argument %v has changed to %v", g, memory)
		}
	}
}

// scribbleSteps overwrites a list, its unused capacity included.
func scribbleSteps(steps []impl.Step) {
	for i := range steps[:cap(steps)] {
		steps[:cap(steps)][i] = impl.Step{Edge: 1000, Inverse: true}
	}
}

func scribbleNodes(nodes []int) {
	for i := range nodes[:cap(nodes)] {
		nodes[:cap(nodes)][i] = 1000
	}
}

func TestStepResultsAreNewMemory(t *testing.T) {
	for _, g := range validGraphs(t) {
		for node := range g.Values {
			for letter := range 2 * impl.MaxLabels {
				argument, memory := roomyGraph(g)
				all, steps, nodes := impl.StepsFrom(argument, node), impl.StepsWith(argument, node, letter), impl.NodesAfter(argument, node, letter)
				scribbleSteps(impl.StepsFrom(argument, node))
				scribbleSteps(impl.StepsWith(argument, node, letter))
				scribbleNodes(impl.NodesAfter(argument, node, letter))
				scribble(memory)
				wantAll := wantedSteps(g, node)
				wantSteps := wantedWith(g, wantAll, letter)
				if !slices.Equal(all, wantAll) || !slices.Equal(steps, wantSteps) || !slices.Equal(nodes, wantedNodes(g, wantSteps)) {
					t.Fatalf("the results for graph %v, node %d and letter %d share memory", g, node, letter)
				}
			}
		}
	}
}
