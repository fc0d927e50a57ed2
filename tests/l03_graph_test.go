package tests

import (
	"fmt"
	"math"
	"slices"
	"strings"
	"testing"

	"loop.example/g01922/impl"
)

// graphOf builds a graph from the digits of its values and the formats of its edges, without the functions under test.
func graphOf(t *testing.T, s string) impl.Graph {
	t.Helper()
	values, rest, _ := strings.Cut(s, " ")
	g := impl.Graph{}
	for _, r := range values {
		g.Values = append(g.Values, int(r-'0'))
	}
	for _, field := range strings.Fields(rest) {
		var e impl.Edge
		var label rune
		if _, err := fmt.Sscanf(field, "%d:%1d%c%1d", &e.ID, &e.From, &label, &e.To); err != nil {
			t.Fatalf("%q: %v", field, err)
		}
		e.Label = int(label - 'a')
		g.Edges = append(g.Edges, e)
	}
	return g
}

// chain returns a valid graph with this number of edges, whose IDs are first, first+step and so on.
func chain(nodes int, edges int, first int, step int) impl.Graph {
	g := impl.Graph{Values: make([]int, nodes)}
	for i := range edges {
		g.Edges = append(g.Edges, impl.Edge{ID: first + step*i, From: i % nodes, To: (i + 1) % nodes, Label: i % impl.MaxLabels})
	}
	return g
}

func sameGraph(a impl.Graph, b impl.Graph) bool {
	return slices.Equal(a.Values, b.Values) && slices.Equal(a.Edges, b.Edges)
}

func cloneGraph(g impl.Graph) impl.Graph {
	return impl.Graph{Values: slices.Clone(g.Values), Edges: slices.Clone(g.Edges)}
}

const goodGraph = "012 1:0a1 2:1b2 5:2a0 9:0a1 98:2c2"

// invalidEdges returns edges that no graph of three nodes may contain, whatever its other edges are.
func invalidEdges() []impl.Edge {
	var list []impl.Edge
	for _, n := range []int{-1, -2, math.MinInt, math.MaxInt, 1 << 32} {
		list = append(list, impl.Edge{ID: n}, impl.Edge{ID: 50, From: n}, impl.Edge{ID: 50, To: n}, impl.Edge{ID: 50, Label: n})
	}
	for _, n := range []int{3, 4, 5, 6} {
		list = append(list, impl.Edge{ID: 50, From: n}, impl.Edge{ID: 50, To: n}, impl.Edge{ID: 50, Label: n})
	}
	return append(list, impl.Edge{ID: 0}, impl.Edge{ID: 100}, impl.Edge{ID: 101})
}

func invalidGraphs(t *testing.T) []impl.Graph {
	list := []impl.Graph{
		{},
		{Values: []int{}, Edges: []impl.Edge{}},
		{Edges: []impl.Edge{{ID: 1}}},
		{Values: make([]int, 6)},
		{Values: make([]int, 1000), Edges: make([]impl.Edge, 1000)},
		chain(6, 3, 1, 1),
		chain(3, 13, 1, 1),
		chain(5, 13, 1, 8),
		chain(3, 99, 1, 1),
		graphOf(t, "012 1:0a1 1:0a1"),
		graphOf(t, "012 1:0a1 1:1b2"),
		graphOf(t, "012 2:0a1 1:0a1"),
		graphOf(t, "012 1:0a1 3:0a1 2:0a1"),
		graphOf(t, "012 1:0a1 3:0a1 3:1a0 4:0a1"),
		graphOf(t, "012 99:0a1 1:0a1"),
		graphOf(t, "01 1:0a2"),
		graphOf(t, "01 1:2a0"),
		graphOf(t, "0 1:0a1"),
	}
	for _, value := range []int{-1, 3, math.MinInt, math.MaxInt} {
		for place := range 3 {
			g := graphOf(t, goodGraph)
			g.Values[place] = value
			list = append(list, g)
		}
	}
	for _, e := range invalidEdges() {
		for place := range 5 {
			g := graphOf(t, goodGraph)
			id := g.Edges[place].ID
			g.Edges[place] = e
			if e.ID == 50 {
				g.Edges[place].ID = id
			}
			list = append(list, g)
		}
	}
	return list
}

func validGraphs(t *testing.T) []impl.Graph {
	list := []impl.Graph{
		{Values: []int{0}},
		{Values: []int{2}, Edges: []impl.Edge{}},
		{Values: []int{1}, Edges: []impl.Edge{{ID: 99}}},
		graphOf(t, goodGraph),
		graphOf(t, "21 1:0a0 2:0a0 3:1c0"),
		graphOf(t, "22222 99:4c4"),
		graphOf(t, "012 1:0a1 2:0a1 3:0a1 4:1a0"),
	}
	for nodes := 1; nodes <= 5; nodes++ {
		list = append(list, chain(nodes, 0, 1, 1), chain(nodes, 1, 1, 1), chain(nodes, 12, 1, 1), chain(nodes, 12, 88, 1), chain(nodes, 11, 9, 9))
	}
	return list
}

func TestGraphConstants(t *testing.T) {
	if impl.MaxNodes != 5 || impl.MaxEdges != 12 || impl.MaxEdgeID != 99 {
		t.Error("constants", impl.MaxNodes, impl.MaxEdges, impl.MaxEdgeID)
	}
}

func TestIsValidGraph(t *testing.T) {
	for _, g := range validGraphs(t) {
		if !impl.IsValidGraph(g) {
			t.Errorf("IsValidGraph(%v) = false", g)
		}
	}
	for _, g := range invalidGraphs(t) {
		if impl.IsValidGraph(g) {
			t.Errorf("IsValidGraph(%v) = true", g)
		}
	}
}

func TestIsValidGraphSizes(t *testing.T) {
	for nodes := range 9 {
		if g := (impl.Graph{Values: make([]int, nodes)}); impl.IsValidGraph(g) != (nodes >= 1 && nodes <= 5) {
			t.Errorf("%d nodes: IsValidGraph = %v", nodes, impl.IsValidGraph(g))
		}
	}
	for edges := range 20 {
		if g := chain(5, edges, 1, 1); impl.IsValidGraph(g) != (edges <= 12) {
			t.Errorf("%d edges: IsValidGraph = %v", edges, impl.IsValidGraph(g))
		}
	}
}

// Every number of a single edge is tried from below to above its range.
func TestIsValidGraphSingleEdge(t *testing.T) {
	for nodes := 1; nodes <= 5; nodes++ {
		for _, id := range []int{-1, 0, 1, 2, 50, 98, 99, 100} {
			for ends := range 64 {
				for label := -1; label <= 3; label++ {
					e := impl.Edge{ID: id, From: ends%8 - 1, To: ends/8 - 1, Label: label}
					g := impl.Graph{Values: make([]int, nodes), Edges: []impl.Edge{e}}
					want := id >= 1 && id <= 99 && e.From >= 0 && e.From < nodes && e.To >= 0 && e.To < nodes && label >= 0 && label <= 2
					if impl.IsValidGraph(g) != want {
						t.Fatalf("IsValidGraph(%v) = %v", g, !want)
					}
				}
			}
		}
	}
}

func TestEdgeIndex(t *testing.T) {
	for _, g := range validGraphs(t) {
		for id := -1; id <= 101; id++ {
			want := -1
			for i, e := range g.Edges {
				if e.ID == id {
					want = i
				}
			}
			if i := impl.EdgeIndex(g, id); i != want {
				t.Errorf("EdgeIndex(%v, %d) = %d; want %d", g, id, i, want)
			}
		}
	}
}

// EdgeIndex has no condition on the graph: the first of several edges counts, in any order and with any numbers.
func TestEdgeIndexOfInvalidGraphs(t *testing.T) {
	ids := []int{9, 3, 3, -7, 200, 9, 0, 1, math.MinInt, math.MaxInt, 1, 2, 0, 50, 40, 30, 20, 10}
	g := impl.Graph{}
	for _, id := range ids {
		g.Edges = append(g.Edges, impl.Edge{ID: id, From: 77, To: -4, Label: 9})
	}
	for _, id := range append(slices.Clone(ids), 4, -1, 100, 201, math.MaxInt-1) {
		if i, want := impl.EdgeIndex(g, id), slices.Index(ids, id); i != want {
			t.Errorf("EdgeIndex(%v, %d) = %d; want %d", ids, id, i, want)
		}
	}
	if i := impl.EdgeIndex(impl.Graph{}, 0); i != -1 {
		t.Errorf("EdgeIndex of the zero value = %d", i)
	}
}

func checkInserted(t *testing.T, g impl.Graph, e impl.Edge, want impl.Graph, wantOk bool) {
	t.Helper()
	if out, ok := impl.InsertEdge(g, e); ok != wantOk || !sameGraph(out, want) {
		t.Errorf("InsertEdge(%v, %v) = %v, %v; want %v, %v", g, e, out, ok, want, wantOk)
	}
}

func TestInsertEdge(t *testing.T) {
	cases := []struct{ graph, edge, want string }{
		{"0", "1:0a0", "0 1:0a0"},
		{"012 1:0a1 2:1b2", "7:2c2", "012 1:0a1 2:1b2 7:2c2"},
		{"012 2:1b2 7:2c2", "1:0a1", "012 1:0a1 2:1b2 7:2c2"},
		{"012 1:0a1 7:2c2", "2:1b2", "012 1:0a1 2:1b2 7:2c2"},
		{"012 1:0a1 2:0a1", "3:0a1", "012 1:0a1 2:0a1 3:0a1"},
		{"22222 10:4c4 30:0a4", "20:4c4", "22222 10:4c4 20:4c4 30:0a4"},
	}
	for _, c := range cases {
		e := graphOf(t, "0 "+c.edge).Edges[0]
		checkInserted(t, graphOf(t, c.graph), e, graphOf(t, c.want), true)
	}
}

// The greatest ID is 99; its edge comes last, and nothing comes after it.
func TestInsertEdgeWithGreatestID(t *testing.T) {
	greatest := impl.Edge{ID: impl.MaxEdgeID, From: 2, To: 0, Label: 2}
	for _, s := range []string{"012", "012 1:0a1", "012 98:0a1", "012 1:0a1 2:1b2 97:2a0 98:0a1"} {
		g := graphOf(t, s)
		want := graphOf(t, s)
		want.Edges = append(want.Edges, greatest)
		checkInserted(t, g, greatest, want, true)
		checkInserted(t, want, greatest, want, false)
		checkInserted(t, want, impl.Edge{ID: 99}, want, false)
		checkInserted(t, want, impl.Edge{ID: 100}, want, false)
		checkInserted(t, g, impl.Edge{ID: 100, From: 2, To: 0, Label: 2}, g, false)
	}
	for edges := range impl.MaxEdges {
		g := chain(3, edges, 98-edges, 1)
		want := cloneGraph(g)
		want.Edges = append(want.Edges, greatest)
		checkInserted(t, g, greatest, want, true)
	}
	before := graphOf(t, "012 99:2c0")
	checkInserted(t, before, impl.Edge{ID: 98}, graphOf(t, "012 98:0a0 99:2c0"), true)
}

func TestInsertEdgeEveryID(t *testing.T) {
	for _, g := range []impl.Graph{{Values: []int{0, 1}}, graphOf(t, "012 1:0a1 99:1b2"), graphOf(t, goodGraph), chain(5, 11, 1, 9), chain(5, 11, 89, 1)} {
		for id := -1; id <= 101; id++ {
			e := impl.Edge{ID: id, From: 1, To: 0, Label: 1}
			used := slices.ContainsFunc(g.Edges, func(other impl.Edge) bool { return other.ID == id })
			if used || id < 1 || id > 99 {
				checkInserted(t, g, e, g, false)
				continue
			}
			want := cloneGraph(g)
			want.Edges = append(want.Edges, e)
			slices.SortFunc(want.Edges, func(a, b impl.Edge) int { return a.ID - b.ID })
			checkInserted(t, g, e, want, true)
		}
	}
}

func TestInsertEdgeInvalid(t *testing.T) {
	g := graphOf(t, goodGraph)
	for _, e := range invalidEdges() {
		checkInserted(t, g, e, g, false)
		checkInserted(t, impl.Graph{Values: []int{0, 1, 2}}, e, impl.Graph{Values: []int{0, 1, 2}}, false)
	}
	for _, g := range invalidGraphs(t) {
		for _, e := range []impl.Edge{{ID: 60}, {ID: 99}, {ID: 1}, {}} {
			checkInserted(t, g, e, g, false)
		}
	}
	checkInserted(t, graphOf(t, "0"), impl.Edge{ID: 1, To: 1}, graphOf(t, "0"), false)
	checkInserted(t, graphOf(t, "0000"), impl.Edge{ID: 1, From: 4}, graphOf(t, "0000"), false)
}

func TestInsertEdgeIntoFullGraph(t *testing.T) {
	for _, g := range []impl.Graph{chain(5, 12, 1, 1), chain(1, 12, 88, 1), chain(3, 12, 2, 8)} {
		for id := range 101 {
			checkInserted(t, g, impl.Edge{ID: id}, g, false)
		}
	}
	g := chain(5, 11, 1, 1)
	want := cloneGraph(g)
	want.Edges = append(want.Edges, impl.Edge{ID: 12, From: 4, To: 4, Label: 2})
	checkInserted(t, g, want.Edges[11], want, true)
}

func checkDeleted(t *testing.T, g impl.Graph, id int, want impl.Graph, wantOk bool) {
	t.Helper()
	if out, ok := impl.DeleteEdge(g, id); ok != wantOk || !sameGraph(out, want) {
		t.Errorf("DeleteEdge(%v, %d) = %v, %v; want %v, %v", g, id, out, ok, want, wantOk)
	}
}

func TestDeleteEdge(t *testing.T) {
	ids := []int{math.MinInt, math.MinInt + 1, -1, 100, 101, math.MaxInt}
	for id := range 100 {
		ids = append(ids, id)
	}
	for _, g := range validGraphs(t) {
		for _, id := range ids {
			want := cloneGraph(g)
			want.Edges = slices.DeleteFunc(want.Edges, func(e impl.Edge) bool { return e.ID == id })
			checkDeleted(t, g, id, want, len(want.Edges) < len(g.Edges))
		}
	}
	checkDeleted(t, graphOf(t, "012 1:0a1 2:1b2 7:2c2"), 2, graphOf(t, "012 1:0a1 7:2c2"), true)
}

func TestDeleteEdgeInvalid(t *testing.T) {
	for _, g := range invalidGraphs(t) {
		for _, id := range []int{1, 2, 0, 99, -1, 100} {
			checkDeleted(t, g, id, g, false)
		}
		for _, e := range g.Edges {
			checkDeleted(t, g, e.ID, g, false)
		}
	}
}

func TestInsertAndDelete(t *testing.T) {
	for _, g := range validGraphs(t) {
		for _, e := range g.Edges {
			less, ok := impl.DeleteEdge(g, e.ID)
			if !ok || !impl.IsValidGraph(less) {
				t.Fatalf("DeleteEdge(%v, %d) = %v, %v", g, e.ID, less, ok)
			}
			checkInserted(t, less, e, g, true)
		}
	}
}

func checkValueSet(t *testing.T, g impl.Graph, node int, value int, want impl.Graph, wantOk bool) {
	t.Helper()
	if out, ok := impl.SetValue(g, node, value); ok != wantOk || !sameGraph(out, want) {
		t.Errorf("SetValue(%v, %d, %d) = %v, %v; want %v, %v", g, node, value, out, ok, want, wantOk)
	}
}

func TestSetValue(t *testing.T) {
	numbers := []int{math.MinInt, -2, -1, 0, 1, 2, 3, 4, 5, 6, 1 << 32, math.MaxInt}
	for _, g := range validGraphs(t) {
		for _, node := range numbers {
			for _, value := range numbers {
				if node < 0 || node >= len(g.Values) || value < 0 || value > 2 {
					checkValueSet(t, g, node, value, g, false)
					continue
				}
				want := cloneGraph(g)
				want.Values[node] = value
				checkValueSet(t, g, node, value, want, true)
			}
		}
	}
	checkValueSet(t, graphOf(t, "012 1:0a1"), 0, 2, graphOf(t, "212 1:0a1"), true)
	for _, g := range invalidGraphs(t) {
		for node := range 3 {
			checkValueSet(t, g, node, 1, g, false)
		}
	}
}

func TestReverseGraph(t *testing.T) {
	r := impl.ReverseGraph(graphOf(t, goodGraph))
	if want := graphOf(t, "012 1:1a0 2:2b1 5:0a2 9:1a0 98:2c2"); !sameGraph(r, want) {
		t.Errorf("ReverseGraph = %v; want %v", r, want)
	}
	for _, g := range append(validGraphs(t), invalidGraphs(t)...) {
		want := cloneGraph(g)
		for i, e := range want.Edges {
			want.Edges[i] = impl.Edge{ID: e.ID, From: e.To, To: e.From, Label: e.Label}
		}
		r := impl.ReverseGraph(g)
		if !sameGraph(r, want) || !sameGraph(impl.ReverseGraph(r), g) || impl.IsValidGraph(r) != impl.IsValidGraph(g) {
			t.Errorf("ReverseGraph(%v) = %v; want %v", g, r, want)
		}
	}
}

func checkEqual(t *testing.T, a impl.Graph, b impl.Graph, want bool) {
	t.Helper()
	if impl.EqualGraphs(a, b) != want || impl.EqualGraphs(b, a) != want {
		t.Errorf("EqualGraphs(%v, %v) = %v, %v; want %v", a, b, impl.EqualGraphs(a, b), impl.EqualGraphs(b, a), want)
	}
}

func TestEqualGraphs(t *testing.T) {
	all := append(validGraphs(t), invalidGraphs(t)...)
	for _, a := range all {
		checkEqual(t, a, cloneGraph(a), true)
		for _, b := range all {
			checkEqual(t, a, b, sameGraph(a, b))
		}
	}
	checkEqual(t, impl.Graph{}, impl.Graph{Values: []int{}, Edges: []impl.Edge{}}, true)
}

// A change in a single number or in the number of nodes or edges is a difference, in any place.
func TestEqualGraphsDifferences(t *testing.T) {
	g := graphOf(t, goodGraph)
	for i := range g.Values {
		other := cloneGraph(g)
		other.Values[i] += 10
		checkEqual(t, g, other, false)
	}
	for i, e := range g.Edges {
		for _, e := range []impl.Edge{
			{ID: e.ID + 1, From: e.From, To: e.To, Label: e.Label},
			{ID: e.ID, From: e.From + 1, To: e.To, Label: e.Label},
			{ID: e.ID, From: e.From, To: e.To - 1, Label: e.Label},
			{ID: e.ID, From: e.From, To: e.To, Label: -1},
		} {
			other := cloneGraph(g)
			other.Edges[i] = e
			checkEqual(t, g, other, false)
		}
	}
	checkEqual(t, g, impl.Graph{Values: g.Values, Edges: g.Edges[:4]}, false)
	checkEqual(t, g, impl.Graph{Values: g.Values[:2], Edges: g.Edges}, false)
	checkEqual(t, g, impl.Graph{Values: g.Values}, false)
	checkEqual(t, g, impl.Graph{Edges: g.Edges}, false)
	checkEqual(t, graphOf(t, "0 1:0a0 2:0a0"), graphOf(t, "0 2:0a0 1:0a0"), false)
	checkEqual(t, graphOf(t, "01"), graphOf(t, "10"), false)
}

func checkEdge(t *testing.T, s string, want impl.Edge, wantOk bool) {
	t.Helper()
	if e, ok := impl.ParseEdge(s); e != want || ok != wantOk {
		t.Fatalf("ParseEdge(%q) = %v, %v; want %v, %v", s, e, ok, want, wantOk)
	}
}

// edgeFormats returns the formats of all edges, spelled without the program.
func edgeFormats() map[string]impl.Edge {
	formats := map[string]impl.Edge{}
	for id := 1; id <= 99; id++ {
		for from := range 5 {
			for to := range 5 {
				for label := range 3 {
					formats[fmt.Sprintf("%d:%d%c%d", id, from, 'a'+label, to)] = impl.Edge{ID: id, From: from, To: to, Label: label}
				}
			}
		}
	}
	return formats
}

func TestEdgeRoundTrip(t *testing.T) {
	checkEdge(t, "7:2c0", impl.Edge{ID: 7, From: 2, To: 0, Label: 2}, true)
	for want, e := range edgeFormats() {
		if s := impl.FormatEdge(e); s != want {
			t.Errorf("FormatEdge(%v) = %q; want %q", e, s, want)
		}
		checkEdge(t, want, e, true)
	}
}

func TestFormatEdgeInvalid(t *testing.T) {
	for _, n := range []int{-1, -2, -10, 10, 100, 1000, 1 << 32, math.MinInt, math.MaxInt} {
		for _, e := range []impl.Edge{{ID: 1, From: n}, {ID: 1, To: n}, {ID: 1, Label: n}} {
			if s := impl.FormatEdge(e); s != "" {
				t.Errorf("FormatEdge(%v) = %q; want the empty string", e, s)
			}
		}
	}
	for _, e := range []impl.Edge{
		{}, {ID: -1}, {ID: 100}, {ID: 999}, {ID: math.MinInt}, {ID: math.MaxInt}, {ID: 1 + 1<<32},
		{ID: 99, From: 5}, {ID: 99, To: 5}, {ID: 99, Label: 3}, {ID: 99, Label: 4}, {ID: 99, Label: 1 << 62}, {ID: 99, Label: -1 << 63},
	} {
		if s := impl.FormatEdge(e); s != "" {
			t.Errorf("FormatEdge(%v) = %q; want the empty string", e, s)
		}
	}
	if s := impl.FormatEdge(impl.Edge{ID: 99, From: 4, To: 4, Label: 2}); s != "99:4c4" {
		t.Errorf("the greatest edge: %q", s)
	}
}

func TestParseEdgeInvalid(t *testing.T) {
	for _, s := range []string{
		"", ":", "7", "7:", "7:2", "7:2c", ":2c0", "7:c0", "72c0", "7:20", "7;2c0", "7::2c0", "7:2c0:", ":7:2c0",
		" 7:2c0", "7:2c0 ", "7 :2c0", "7: 2c0", "7:2 c0", "7:2c 0", "7:2c0\n", "\t7:2c0", "7:2c0 8:2c0",
		"07:2c0", "007:2c0", "7:02c0", "7:2c00", "7:12c0", "7:2c10", "7:2c0c0", "77:22c0",
		"0:2c0", "00:2c0", "-0:2c0", "-7:2c0", "+7:2c0", "100:2c0", "107:2c0", "999:2c0", "1000000000:2c0", "18446744073709551623:2c0",
		"7:5c0", "7:9c0", "7:2c5", "7:2c9", "7:-1c0", "7:2c-", "7:2c-1", "7:/c0", "7:2c/", "7::c0", "7:2c:",
		"7:2d0", "7:2C0", "7:2A0", "7:2`0", "7:200", "7:210", "7:220", "7:2-0", "7:2c-0", "7:2cc0", "7:2ab0", "7:2\x000", "7:ac0", "7:2ca",
		"a:2c0", "7a:2c0", "0x7:2c0", "7_1:2c0", "7:2\u0441" + "0", "\u0667:2c0", "7:\u0662c0", "7:2c\u0660", "7\uff1a2c0", "\xff:2c0", "7:\xffc0", "7:2\xff0", "7:2c\xff",
		"7:2c0\x00", "\x007:2c0", strings.Repeat("7", 1000) + ":2c0", "7:" + strings.Repeat("2c0", 1000), strings.Repeat(":", 1000),
	} {
		checkEdge(t, s, impl.Edge{}, false)
	}
}

func TestParseEdgeAcceptsNothingElse(t *testing.T) {
	formats := edgeFormats()
	check := func(s string) {
		e, ok := formats[s]
		checkEdge(t, s, e, ok)
	}
	eachString("0149:abcd- ", 5, check)
	eachString("14:c", 8, check)
	// Every format with one byte replaced, inserted or left out.
	bytes := allBytes()
	for s := range formats {
		if !strings.HasPrefix(s, "1") && !strings.HasPrefix(s, "99") {
			continue
		}
		for i := range len(s) {
			check(s[:i] + s[i+1:])
		}
		for i := range len(s) + 1 {
			for _, b := range []string{"0", "9", "a", ":", " ", "-"} {
				check(s[:i] + b + s[i:])
			}
		}
	}
	for _, s := range []string{"1:0a0", "99:4c4", "10:0b4"} {
		for i := range len(s) {
			for b := range len(bytes) {
				check(s[:i] + bytes[b:b+1] + s[i+1:])
				check(s[:i] + bytes[b:b+1] + s[i:])
			}
		}
	}
}

func checkGraph(t *testing.T, s string, want impl.Graph, wantOk bool) {
	t.Helper()
	if g, ok := impl.ParseGraph(s); !sameGraph(g, want) || ok != wantOk {
		t.Fatalf("ParseGraph(%q) = %v, %v; want %v, %v", s, g, ok, want, wantOk)
	}
}

// spelledGraph writes a valid graph without the program.
func spelledGraph(g impl.Graph) string {
	var s strings.Builder
	for _, value := range g.Values {
		fmt.Fprint(&s, value)
	}
	for _, e := range g.Edges {
		fmt.Fprintf(&s, " %d:%d%c%d", e.ID, e.From, 'a'+e.Label, e.To)
	}
	return s.String()
}

func checkGraphRoundTrip(t *testing.T, g impl.Graph) {
	t.Helper()
	s := impl.FormatGraph(g)
	if s != spelledGraph(g) || s == "" {
		t.Errorf("FormatGraph(%v) = %q; want %q", g, s, spelledGraph(g))
	}
	checkGraph(t, s, g, true)
}

func TestGraphRoundTrip(t *testing.T) {
	for _, s := range []string{"012 1:0a1 2:1b2", "0", "22222", goodGraph, "0 1:0a0 99:0c0"} {
		if f := impl.FormatGraph(graphOf(t, s)); f != s {
			t.Errorf("FormatGraph gives %q; want %q", f, s)
		}
		checkGraph(t, s, graphOf(t, s), true)
	}
	for _, g := range validGraphs(t) {
		checkGraphRoundTrip(t, g)
	}
	eachList([]int{0, 1, 2}, impl.MaxNodes, func(values []int) {
		if len(values) > 0 {
			checkGraphRoundTrip(t, impl.Graph{Values: values})
			checkGraphRoundTrip(t, impl.Graph{Values: values, Edges: chain(len(values), 12, 5, 7).Edges})
		}
	})
	for id := 1; id <= 99; id++ {
		checkGraphRoundTrip(t, impl.Graph{Values: []int{0}, Edges: []impl.Edge{{ID: id, Label: id % 3}}})
	}
}

func TestFormatGraphInvalid(t *testing.T) {
	for _, g := range invalidGraphs(t) {
		if s := impl.FormatGraph(g); s != "" {
			t.Errorf("FormatGraph(%v) = %q; want the empty string", g, s)
		}
	}
}

func TestParseGraphInvalid(t *testing.T) {
	full := spelledGraph(chain(5, 12, 1, 1))
	for _, s := range []string{
		"", " ", "  ", "1:0a0", " 1:0a0", ":", "-",
		" 012", "012 ", "012  ", "0 12", "012\n", "\t012", "012\x00", "01 2:0a1 1:0a1", "01 2:0a1 2:0a1", "01 1:0a1 1:0a1",
		"012  1:0a1", "012 1:0a1 ", "012 1:0a1  2:1b2", " 012 1:0a1", "012 1 :0a1", "012 1: 0a1", "012 1:0 a1", "0121:0a1", "012 1:0a12:1b2",
		"012\t1:0a1", "012,1:0a1", "012\u00a01:0a1", "012 1:0a1\n2:1b2", "012 1:0a1\n",
		"3", "013", "9", "/", "0/1", "a", "0a", "-1", "0-1", "+1", "0.1", "\u0660", "\xff", "0\xc3", "\x00", "01\x00",
		"000000", "0000000", "012012", "000000 1:0a1", "22222 1:5a0", "22222 1:0a5",
		"01 1:0a2", "01 1:2a0", "0 1:1a0", "0 1:0a1", "0 1:0a0 2:0a1", "012 1:3a0", "012 0:0a0", "012 100:0a0", "012 -1:0a0", "012 01:0a0", "012 1:0d0", "012 1:0a-0", "012 1:000",
		"012 1", "012 1:", "012 a", "012 1:0a1 x", "012 1:0a1 2", "012 012", "012 1:0a1 012", "012 1:0a1 3:0a1 2:0a1",
		full + " ", full + " 13:0a0", full + " 13:0a0 14:0a0", full + " 12:0a0", full + " x", " " + full, "0" + full,
		strings.Repeat("0", 1000), strings.Repeat(" ", 1000), full + strings.Repeat(" 99:0a0", 1000), strings.Repeat(full+" ", 100),
	} {
		checkGraph(t, s, impl.Graph{}, false)
	}
	checkGraph(t, full, chain(5, 12, 1, 1), true)
}

func TestParseGraphAcceptsNothingElse(t *testing.T) {
	// The graphs that are written with at most eight of these bytes have one edge at most.
	formats := map[string]impl.Graph{}
	eachList([]int{0, 1, 2}, 5, func(values []int) {
		if len(values) == 0 {
			return
		}
		g := impl.Graph{Values: values}
		formats[spelledGraph(g)] = g
		for s, e := range edgeFormats() {
			if e.From < len(values) && e.To < len(values) && len(values)+1+len(s) <= 8 {
				g := impl.Graph{Values: values, Edges: []impl.Edge{e}}
				formats[spelledGraph(g)] = g
			}
		}
	})
	check := func(s string) {
		g, ok := formats[s]
		checkGraph(t, s, g, ok)
	}
	eachString("0123 ", 7, check)
	eachString("01 :a", 8, check)
	eachString(allBytes(), 2, check)
	bytes := allBytes()
	for _, s := range []string{"0 1:0a0", "01 9:1c0", "1 10:0b0"} {
		for i := range len(s) {
			for b := range len(bytes) {
				check(s[:i] + bytes[b:b+1] + s[i+1:])
			}
		}
	}
}

// roomyGraph returns a graph like g whose slices have unused capacity, and the memory behind them.
func roomyGraph(g impl.Graph) (impl.Graph, impl.Graph) {
	memory := impl.Graph{Values: slices.Repeat([]int{77}, len(g.Values)+10), Edges: slices.Repeat([]impl.Edge{{ID: 77, From: 7, To: 7, Label: 7}}, len(g.Edges)+10)}
	copy(memory.Values, g.Values)
	copy(memory.Edges, g.Edges)
	return impl.Graph{Values: memory.Values[:len(g.Values)], Edges: memory.Edges[:len(g.Edges)]}, memory
}

// scribble overwrites a graph, its unused capacity included.
func scribble(g impl.Graph) {
	for i := range g.Values[:cap(g.Values)] {
		g.Values[:cap(g.Values)][i] = 1000
	}
	for i := range g.Edges[:cap(g.Edges)] {
		g.Edges[:cap(g.Edges)][i] = impl.Edge{ID: 1000, From: 1000, To: 1000, Label: 1000}
	}
}

// changes returns calls that give a graph for a graph, with valid and with invalid arguments.
func changes() map[string]func(g impl.Graph) impl.Graph {
	calls := map[string]func(g impl.Graph) impl.Graph{
		"ReverseGraph": impl.ReverseGraph,
	}
	for _, id := range []int{0, 1, 2, 50, 98, 99, 100} {
		calls[fmt.Sprint("InsertEdge ", id)] = func(g impl.Graph) impl.Graph {
			out, _ := impl.InsertEdge(g, impl.Edge{ID: id, Label: 1})
			return out
		}
		calls[fmt.Sprint("DeleteEdge ", id)] = func(g impl.Graph) impl.Graph {
			out, _ := impl.DeleteEdge(g, id)
			return out
		}
	}
	for node := -1; node <= 5; node++ {
		calls[fmt.Sprint("SetValue ", node)] = func(g impl.Graph) impl.Graph {
			out, _ := impl.SetValue(g, node, 1)
			return out
		}
	}
	return calls
}

func TestGraphArgumentsStay(t *testing.T) {
	for _, g := range append(validGraphs(t), invalidGraphs(t)...) {
		argument, memory := roomyGraph(g)
		before := cloneGraph(memory)
		impl.IsValidGraph(argument)
		impl.EdgeIndex(argument, 2)
		impl.EqualGraphs(argument, argument)
		impl.FormatGraph(argument)
		if !sameGraph(memory, before) {
			t.Errorf("the argument %v has changed to %v", g, memory)
		}
		for name, change := range changes() {
			change(argument)
			if !sameGraph(memory, before) {
				t.Fatalf("%s has changed the argument %v to %v", name, g, memory)
			}
		}
	}
}

func TestGraphResultsAreNewMemory(t *testing.T) {
	for _, g := range append(validGraphs(t), invalidGraphs(t)...) {
		for name, change := range changes() {
			argument, memory := roomyGraph(g)
			before := cloneGraph(memory)
			first, second := change(argument), change(argument)
			want := cloneGraph(second)
			scribble(first)
			if !sameGraph(memory, before) || !sameGraph(second, want) {
				t.Fatalf("the result of %s for %v shares memory", name, g)
			}
			scribble(memory)
			if !sameGraph(second, want) {
				t.Fatalf("the result of %s for %v changes with the argument", name, g)
			}
		}
	}
}

func TestParseGraphIsNewMemory(t *testing.T) {
	for _, g := range validGraphs(t) {
		s := spelledGraph(g)
		first, _ := impl.ParseGraph(s)
		second, _ := impl.ParseGraph(s)
		scribble(first)
		third, ok := impl.ParseGraph(s)
		if !ok || !sameGraph(second, g) || !sameGraph(third, g) {
			t.Errorf("the results of ParseGraph(%q) share memory", s)
		}
	}
}
