package tests

import (
	"fmt"
	"maps"
	"math"
	"math/rand"
	"regexp"
	"slices"
	"strings"
	"testing"

	"loop.example/g01922/impl"
)

// batchOf reads the format of a batch, without the functions under test and without their limits.
func batchOf(t *testing.T, s string) impl.Batch {
	t.Helper()
	b := impl.Batch{}
	for _, field := range strings.Fields(s) {
		if field[0] != '+' && field[0] != '-' {
			t.Fatalf("%q has no sign", field)
		}
		b.Changes = append(b.Changes, impl.Change{Insert: field[0] == '+', Edge: graphOf(t, "0 "+field[1:]).Edges[0]})
	}
	return b
}

func sameBatch(a impl.Batch, b impl.Batch) bool {
	return slices.Equal(a.Changes, b.Changes)
}

func cloneBatch(b impl.Batch) impl.Batch {
	return impl.Batch{Changes: slices.Clone(b.Changes)}
}

func bothChanges(e impl.Edge) []impl.Change {
	return []impl.Change{{Edge: e}, {Insert: true, Edge: e}}
}

func oneChange(insert bool, e impl.Edge) impl.Batch {
	return impl.Batch{Changes: []impl.Change{{Insert: insert, Edge: e}}}
}

// wantedApply applies the batch to a valid graph without the program.
func wantedApply(g impl.Graph, b impl.Batch) (impl.Graph, bool) {
	edges := map[int]impl.Edge{}
	for _, e := range g.Edges {
		edges[e.ID] = e
	}
	for _, c := range b.Changes {
		there, used := edges[c.Edge.ID]
		switch {
		case !c.Insert && used && there == c.Edge:
			delete(edges, c.Edge.ID)
		case c.Insert && !used && len(edges) < 12 && fits(g, c.Edge):
			edges[c.Edge.ID] = c.Edge
		default:
			return g, false
		}
	}
	if len(b.Changes) > 6 {
		return g, false
	}
	out := impl.Graph{Values: g.Values}
	for _, id := range slices.Sorted(maps.Keys(edges)) {
		out.Edges = append(out.Edges, edges[id])
	}
	return out, true
}

func fits(g impl.Graph, e impl.Edge) bool {
	nodes := len(g.Values)
	return e.ID >= 1 && e.ID <= 99 && e.From >= 0 && e.From < nodes && e.To >= 0 && e.To < nodes && e.Label >= 0 && e.Label <= 2
}

func checkApplied(t *testing.T, g impl.Graph, b impl.Batch, want impl.Graph, wantOk bool) {
	t.Helper()
	if out, ok := impl.ApplyBatch(g, b); ok != wantOk || !sameGraph(out, want) {
		t.Fatalf("ApplyBatch(%v, %v) = %v, %v; want %v, %v", g, b, out, ok, want, wantOk)
	}
	if ok := impl.IsApplicable(g, b); ok != wantOk {
		t.Fatalf("IsApplicable(%v, %v) = %v", g, b, ok)
	}
}

func checkRejected(t *testing.T, g impl.Graph, b impl.Batch) {
	t.Helper()
	checkApplied(t, g, b, g, false)
}

// checkPromises checks what must hold for an applied batch: its inverse undoes it, and its net batch and the batch between have its effect.
func checkPromises(t *testing.T, g impl.Graph, b impl.Batch) {
	t.Helper()
	h, ok := impl.ApplyBatch(g, b)
	if !ok {
		return
	}
	if !impl.IsValidGraph(h) {
		t.Fatalf("ApplyBatch(%v, %v) = %v, which is invalid", g, b, h)
	}
	checkApplied(t, h, impl.InvertBatch(b), g, true)
	net := impl.NetBatch(b)
	checkApplied(t, g, net, h, true)
	checkApplied(t, h, impl.InvertBatch(net), g, true)
	if between, ok := impl.BatchBetween(g, h); !ok || len(between.Changes) != len(net.Changes) {
		t.Fatalf("BatchBetween(%v, %v) = %v, %v; the net batch is %v", g, h, between, ok, net)
	}
}

func checkBatch(t *testing.T, g impl.Graph, b impl.Batch) {
	t.Helper()
	want, wantOk := wantedApply(g, b)
	checkApplied(t, g, b, want, wantOk)
	checkPromises(t, g, b)
}

func TestBatchConstants(t *testing.T) {
	if impl.MaxChanges != 6 {
		t.Error("constants", impl.MaxChanges)
	}
}

func TestApplyBatch(t *testing.T) {
	for _, c := range []struct{ graph, batch, want string }{
		{"012 1:0a1 2:1b2", "", "012 1:0a1 2:1b2"},
		{"012", "+7:2c2", "012 7:2c2"},
		{"012 7:2c2", "-7:2c2", "012"},
		{"012 1:0a1 2:1b2 3:2a0 4:0a1", "-1:0a1 +7:2c2 +8:0a1", "012 2:1b2 3:2a0 4:0a1 7:2c2 8:0a1"},
		{"012 2:1b2 8:0a1", "+9:0a0 +5:0a0 +1:0a0", "012 1:0a0 2:1b2 5:0a0 8:0a1 9:0a0"},
		{"0", "+1:0a0 +99:0c0", "0 1:0a0 99:0c0"},
		{"012 1:0a1", "-1:0a1 +1:0a1", "012 1:0a1"},
		{"012", "+1:0a1 -1:0a1", "012"},
		{"012 1:0a1", "-1:0a1 +1:1a0", "012 1:1a0"},
		{"012 1:0a1", "-1:0a1 +1:0a1 -1:0a1", "012"},
		{"012 1:0a1", "-1:0a1 +1:0b1 -1:0b1 +1:0c1 -1:0c1 +1:0a2", "012 1:0a2"},
		{"22222 10:4c4", "+9:4a0 -10:4c4 +10:0b4", "22222 9:4a0 10:0b4"},
	} {
		checkApplied(t, graphOf(t, c.graph), batchOf(t, c.batch), graphOf(t, c.want), true)
		checkBatch(t, graphOf(t, c.graph), batchOf(t, c.batch))
	}
}

func TestApplyBatchRejected(t *testing.T) {
	for _, c := range []struct{ graph, batch string }{
		{"012 1:0a1", "+1:0a1"},
		{"012 1:0a1", "+1:0b1"},
		{"012 1:0a1", "+1:2c2"},
		{"012 1:0a1", "-2:0a1"},
		{"012", "-1:0a1"},
		{"012 1:0a1", "-1:0b1"},
		{"012 1:0a1", "-1:0a2"},
		{"012 1:0a1", "-1:2a1"},
		{"012 1:0a1", "-1:1a0"},
		{"012 1:0a1", "-1:0a1 -1:0a1"},
		{"012", "+1:0a1 +1:0a1"},
		{"012", "+1:0a1 -1:0b1"},
		{"012", "+1:0a1 -1:0a1 -1:0a1"},
		{"012", "-1:0a1 +1:0a1"},
		{"012 1:0a1", "+1:0a1 -1:0a1"},
		{"012 1:0a1", "+1:0b1 -1:0a1"},
		{"012 1:0a1", "-1:0a1 +1:0b1 -1:0a1"},
		{"01", "+1:0a2"},
		{"01", "+1:2a0"},
		{"0", "+1:0a1"},
		{"012", "+1:0d1"},
		{"012", "+0:0a1"},
		{"012", "+100:0a1"},
		{"012 2:0a0", "+1:0a1 -2:0a0 +3:0a1 +3:0a1"},
	} {
		checkRejected(t, graphOf(t, c.graph), batchOf(t, c.batch))
		checkBatch(t, graphOf(t, c.graph), batchOf(t, c.batch))
	}
}

// eachBatch calls f for all batches of at most length of these changes.
func eachBatch(choices []impl.Change, length int, f func(b impl.Batch)) {
	var indices []int
	for i := range choices {
		indices = append(indices, i)
	}
	eachList(indices, length, func(list []int) {
		b := impl.Batch{}
		for _, i := range list {
			b.Changes = append(b.Changes, choices[i])
		}
		f(b)
	})
}

func batchGraphs(t *testing.T) []impl.Graph {
	return []impl.Graph{
		graphOf(t, "012"),
		graphOf(t, "012 1:0a1"),
		graphOf(t, "012 1:0b1 99:2c0"),
		graphOf(t, "012 1:0a1 2:1b2 99:2c0"),
		graphOf(t, "01 1:0a1 2:1b1"),
		graphOf(t, "012 3:0a0 4:0a0 5:0a0 6:0a0 7:0a0 8:0a0 9:0a0 10:0a0 11:0a0 12:0a0 13:0a0"),
		graphOf(t, "012 2:1b2 4:0a0 5:0a0 6:0a0 7:0a0 8:0a0 9:0a0 10:0a0 11:0a0 12:0a0 13:0a0 99:2c0"),
	}
}

// The edges include two with the same ID.
func someChanges(t *testing.T) []impl.Change {
	var list []impl.Change
	for _, e := range graphOf(t, "012 1:0a1 1:0b1 2:1b2 99:2c0").Edges {
		list = append(list, bothChanges(e)...)
	}
	return list
}

// All short batches are tried on every graph, whether they can be applied or not.
func TestAllShortBatches(t *testing.T) {
	for _, g := range batchGraphs(t) {
		applied := 0
		eachBatch(someChanges(t), 4, func(b impl.Batch) {
			checkBatch(t, g, b)
			if impl.IsApplicable(g, b) {
				applied++
			}
		})
		if applied < 10 {
			t.Errorf("graph %v: only %d batches are applied", g, applied)
		}
	}
}

// randomBatch contains changes of which most can be applied to the graph, one after the other.
func randomBatch(g impl.Graph, r *rand.Rand, length int) impl.Batch {
	b := impl.Batch{}
	used := map[int]impl.Edge{}
	for _, e := range g.Edges {
		used[e.ID] = e
	}
	for range length {
		e := impl.Edge{ID: 1 + r.Intn(14), From: r.Intn(len(g.Values)), To: r.Intn(len(g.Values)), Label: r.Intn(3)}
		there, found := used[e.ID]
		if found && r.Intn(50) > 0 {
			e = there
		}
		b.Changes = append(b.Changes, impl.Change{Insert: !found, Edge: e})
		if found {
			delete(used, e.ID)
		} else {
			used[e.ID] = e
		}
	}
	return b
}

func TestRandomBatches(t *testing.T) {
	r := rand.New(rand.NewSource(6))
	applied := 0
	for _, g := range validGraphs(t) {
		for length := range 8 {
			for range 200 {
				b := randomBatch(g, r, length)
				checkBatch(t, g, b)
				if length == 6 && impl.IsApplicable(g, b) {
					applied++
				}
			}
		}
	}
	if applied < 1000 {
		t.Errorf("only %d random batches of 6 changes are applied", applied)
	}
}

// The batch without changes can be applied to every valid graph.
func TestEmptyBatch(t *testing.T) {
	for _, b := range []impl.Batch{{}, {Changes: []impl.Change{}}} {
		for _, g := range validGraphs(t) {
			checkApplied(t, g, b, g, true)
			if between, ok := impl.BatchBetween(g, cloneGraph(g)); !ok || len(between.Changes) != 0 {
				t.Errorf("BatchBetween(%v, itself) = %v, %v", g, between, ok)
			}
		}
		if len(impl.InvertBatch(b).Changes) != 0 || len(impl.NetBatch(b).Changes) != 0 || impl.FormatBatch(b) != "" {
			t.Error("the batch without changes", impl.InvertBatch(b), impl.NetBatch(b), impl.FormatBatch(b))
		}
	}
}

func TestBatchesOfInvalidGraphs(t *testing.T) {
	for _, g := range invalidGraphs(t) {
		batches := []impl.Batch{{}, batchOf(t, "+60:0a0"), batchOf(t, "-1:0a1"), batchOf(t, "+60:0a0 -60:0a0"), batchOf(t, "-1:0a1 +1:0a1")}
		for _, e := range g.Edges {
			// Without this edge, or with another one in its place, the graph may be valid.
			batches = append(batches, oneChange(false, e), impl.Batch{Changes: []impl.Change{{Edge: e}, {Insert: true, Edge: impl.Edge{ID: e.ID}}}})
		}
		for _, b := range batches {
			checkRejected(t, g, b)
		}
	}
	checkRejected(t, impl.Graph{}, impl.Batch{})
}

// Exactly MaxChanges changes are applied; one more is too many, even if every single one can be applied.
func TestMostChanges(t *testing.T) {
	insertions := batchOf(t, "+1:0a1 +2:0a1 +3:0a1 +4:0a1 +5:0a1 +6:0a1 +7:0a1 +8:0a1")
	turns := batchOf(t, strings.Repeat("+1:0a1 -1:0a1 ", 500))
	for _, batch := range []impl.Batch{insertions, turns} {
		g := graphOf(t, "012")
		for length := range len(batch.Changes) + 1 {
			b := impl.Batch{Changes: batch.Changes[:length]}
			if impl.IsApplicable(g, b) != (length <= 6) {
				t.Fatalf("%d changes: IsApplicable = %v", length, length > 6)
			}
			if length > 6 {
				checkRejected(t, g, b)
				continue
			}
			checkBatch(t, g, b)
		}
	}
	full := chain(5, 12, 1, 1)
	deletions := impl.Batch{}
	for _, e := range full.Edges {
		deletions.Changes = append(deletions.Changes, impl.Change{Edge: e})
	}
	checkApplied(t, full, impl.Batch{Changes: deletions.Changes[:6]}, impl.Graph{Values: full.Values, Edges: full.Edges[6:]}, true)
	checkRejected(t, full, impl.Batch{Changes: deletions.Changes[:7]})
	checkRejected(t, full, deletions)
}

// edgesNear returns the edge with one field changed.
func edgesNear(e impl.Edge) []impl.Edge {
	var list []impl.Edge
	for _, by := range []int{-1, 1, 10, 1 << 32, math.MinInt} {
		list = append(list,
			impl.Edge{ID: e.ID, From: e.From + by, To: e.To, Label: e.Label},
			impl.Edge{ID: e.ID, From: e.From, To: e.To + by, Label: e.Label},
			impl.Edge{ID: e.ID, From: e.From, To: e.To, Label: e.Label + by})
	}
	return list
}

// A deletion requires exactly the edge that is there; an insertion requires that its ID is not there, whatever the other fields are.
func TestEdgesWithOtherFields(t *testing.T) {
	for _, g := range validGraphs(t) {
		for _, e := range g.Edges {
			checkRejected(t, g, oneChange(true, e))
			for _, near := range edgesNear(e) {
				checkRejected(t, g, oneChange(false, near))
				checkRejected(t, g, oneChange(true, near))
				checkRejected(t, g, impl.Batch{Changes: []impl.Change{{Edge: e}, {Insert: true, Edge: e}, {Edge: near}}})
				if fits(g, near) {
					checkBatch(t, g, impl.Batch{Changes: []impl.Change{{Edge: e}, {Insert: true, Edge: near}}})
				}
			}
			for _, id := range []int{e.ID - 100, e.ID + 100, -e.ID, 0, 100} {
				checkRejected(t, g, oneChange(false, impl.Edge{ID: id, From: e.From, To: e.To, Label: e.Label}))
			}
			checkApplied(t, g, oneChange(false, e), impl.Graph{Values: g.Values, Edges: slices.DeleteFunc(slices.Clone(g.Edges), func(other impl.Edge) bool { return other == e })}, true)
		}
	}
}

// An edge can be inserted exactly if its numbers are in the range of the graph.
func TestInsertionRanges(t *testing.T) {
	for nodes := 1; nodes <= 5; nodes++ {
		g := impl.Graph{Values: make([]int, nodes)}
		for _, id := range []int{-1, 0, 1, 2, 98, 99, 100, 101} {
			for ends := range 64 {
				for label := -1; label <= 3; label++ {
					e := impl.Edge{ID: id, From: ends%8 - 1, To: ends/8 - 1, Label: label}
					if fits(g, e) {
						checkApplied(t, g, oneChange(true, e), impl.Graph{Values: g.Values, Edges: []impl.Edge{e}}, true)
					} else {
						checkRejected(t, g, oneChange(true, e))
					}
					checkRejected(t, g, oneChange(false, e))
				}
			}
		}
	}
	for _, e := range invalidEdges() {
		for _, c := range bothChanges(e) {
			checkRejected(t, graphOf(t, goodGraph), impl.Batch{Changes: []impl.Change{c}})
			checkRejected(t, graphOf(t, "012"), impl.Batch{Changes: []impl.Change{c}})
		}
	}
}

// A change that cannot be applied spoils the batch in any place, and nothing of what comes before it stays.
func TestAllOrNothing(t *testing.T) {
	g := graphOf(t, goodGraph)
	good := batchOf(t, "-1:0a1 +3:1c1 -2:1b2 +2:2a2 -9:0a1")
	checkBatch(t, g, good)
	if !impl.IsApplicable(g, good) {
		t.Fatal("the good batch")
	}
	for place := range len(good.Changes) + 1 {
		for _, bad := range batchOf(t, "-1:0b1 +98:2c2 -98:2b2 +50:3a0 +50:0a3 +0:0a0 +100:0a0 -50:0a0 +5:2a0 +50:0d0").Changes {
			checkRejected(t, g, impl.Batch{Changes: slices.Insert(slices.Clone(good.Changes), place, bad)})
			if place < len(good.Changes) {
				b := cloneBatch(good)
				b.Changes[place] = bad
				checkRejected(t, g, b)
			}
		}
	}
}

// A deletion and an insertion of the same edge, in both orders, with the edge there or not.
func TestSameEdgeDeletedAndInserted(t *testing.T) {
	for _, g := range validGraphs(t) {
		for id := 1; id <= 99; id++ {
			e := impl.Edge{ID: id, Label: id % 3}
			there := impl.EdgeIndex(g, id) >= 0
			if there {
				e = g.Edges[impl.EdgeIndex(g, id)]
			}
			deletedFirst := impl.Batch{Changes: []impl.Change{{Edge: e}, {Insert: true, Edge: e}}}
			insertedFirst := impl.Batch{Changes: []impl.Change{{Insert: true, Edge: e}, {Edge: e}}}
			checkApplied(t, g, deletedFirst, g, there)
			checkApplied(t, g, insertedFirst, g, !there && len(g.Edges) < 12)
			for _, b := range []impl.Batch{deletedFirst, insertedFirst} {
				checkNet(t, b, impl.Batch{})
				checkInverted(t, b, b)
				checkPromises(t, g, b)
			}
		}
	}
	g := graphOf(t, "012 1:0a1")
	checkApplied(t, g, batchOf(t, "-1:0a1 +1:0a1 -1:0a1 +1:0a1 -1:0a1 +1:0a1"), g, true)
	checkApplied(t, graphOf(t, "012"), batchOf(t, "+1:0a1 -1:0a1 +1:0a1 -1:0a1 +1:0a1 -1:0a1"), graphOf(t, "012"), true)
	checkBetween(t, g, graphOf(t, "012 1:0a2"), batchOf(t, "-1:0a1 +1:0a2"), true)
}

// In a full graph an insertion must follow a deletion.
func TestBatchesOfFullGraphs(t *testing.T) {
	for _, g := range []impl.Graph{chain(5, 12, 1, 1), chain(1, 12, 88, 1), chain(3, 12, 2, 8)} {
		old, added := g.Edges[3], impl.Edge{ID: 60, Label: 1}
		deletedFirst := impl.Batch{Changes: []impl.Change{{Edge: old}, {Insert: true, Edge: added}}}
		insertedFirst := impl.Batch{Changes: []impl.Change{{Insert: true, Edge: added}, {Edge: old}}}
		if impl.EdgeIndex(g, 60) >= 0 {
			t.Fatalf("graph %v has edge 60", g)
		}
		checkRejected(t, g, insertedFirst)
		checkRejected(t, g, oneChange(true, added))
		checkRejected(t, g, impl.Batch{Changes: []impl.Change{{Edge: old}, {Insert: true, Edge: added}, {Insert: true, Edge: impl.Edge{ID: 61}}}})
		checkBatch(t, g, deletedFirst)
		if !impl.IsApplicable(g, deletedFirst) {
			t.Errorf("IsApplicable(%v, %v) = false", g, deletedFirst)
		}
		// The net batch has the deletions first, so it may be applicable where the batch is not.
		checkNet(t, insertedFirst, deletedFirst)
	}
	g := chain(5, 11, 1, 1)
	checkRejected(t, g, batchOf(t, "+50:0a0 +51:0a0"))
	checkRejected(t, g, batchOf(t, "+50:0a0 +51:0a0 -50:0a0"))
	checkBatch(t, g, batchOf(t, "+50:0a0 -50:0a0 +51:0a0"))
}

func checkInverted(t *testing.T, b impl.Batch, want impl.Batch) {
	t.Helper()
	if inverse := impl.InvertBatch(b); !sameBatch(inverse, want) {
		t.Fatalf("InvertBatch(%v) = %v; want %v", b, inverse, want)
	}
}

// anyBatches returns batches with any numbers, also such as can never be applied.
func anyBatches(t *testing.T) []impl.Batch {
	list := []impl.Batch{
		{}, batchOf(t, "+1:0a1"), batchOf(t, "-99:4c4"), batchOf(t, "-1:0a1 +7:2c2"), batchOf(t, "+7:2c2 -1:0a1"), batchOf(t, "+1:0a1 +1:0a1 -1:0b1"),
		batchOf(t, "-1:0a1 -1:0a1 -1:0a1 +1:0a1"), batchOf(t, "+1:0a1 -2:1b2 +3:0a1 -4:1b2 +5:0a1 -6:1b2"), batchOf(t, "-1:0a1 +1:0a1 -1:0a1 +1:0a1 -1:0a1 +1:0a1 -1:0a1"),
		batchOf(t, strings.Repeat("+1:0a1 +2:0a1 -1:0a1 ", 100)), batchOf(t, strings.Repeat("-3:0a1 ", 1000)),
	}
	strange := impl.Batch{}
	for _, e := range invalidEdges() {
		strange.Changes = append(strange.Changes, bothChanges(e)...)
		list = append(list, oneChange(true, e), oneChange(false, e), impl.Batch{Changes: bothChanges(e)})
	}
	return append(list, strange)
}

func TestInvertBatch(t *testing.T) {
	for s, want := range map[string]string{
		"":                           "",
		"+1:0a1":                     "-1:0a1",
		"-1:0a1":                     "+1:0a1",
		"-1:0a1 +7:2c2 +8:0a1":       "-8:0a1 -7:2c2 +1:0a1",
		"+1:0a1 -1:0a1":              "+1:0a1 -1:0a1",
		"+1:0a1 +2:0a1 +3:0a1":       "-3:0a1 -2:0a1 -1:0a1",
		"-1:0a1 -1:0a1 +1:0b1":       "-1:0b1 +1:0a1 +1:0a1",
		"+0:0a1 -100:7d8 -1:5a0":     "+1:5a0 +100:7d8 -0:0a1",
		strings.Repeat("+1:0a1 ", 7): strings.Repeat("-1:0a1 ", 7),
	} {
		checkInverted(t, batchOf(t, s), batchOf(t, want))
	}
	for _, b := range anyBatches(t) {
		want := impl.Batch{}
		for i := len(b.Changes) - 1; i >= 0; i-- {
			want.Changes = append(want.Changes, impl.Change{Insert: !b.Changes[i].Insert, Edge: b.Changes[i].Edge})
		}
		checkInverted(t, b, want)
		checkInverted(t, want, b)
	}
}

func checkNet(t *testing.T, b impl.Batch, want impl.Batch) {
	t.Helper()
	if net := impl.NetBatch(b); !sameBatch(net, want) {
		t.Fatalf("NetBatch(%v) = %v; want %v", b, net, want)
	}
}

// wantedNet keeps the list as the specification says it.
func wantedNet(b impl.Batch) impl.Batch {
	var list []impl.Change
next:
	for _, c := range b.Changes {
		for i := len(list) - 1; i >= 0; i-- {
			if list[i].Edge == c.Edge && list[i].Insert != c.Insert {
				list = append(list[:i], list[i+1:]...)
				continue next
			}
		}
		list = append(list, c)
	}
	net := impl.Batch{}
	for _, insert := range []bool{false, true} {
		for _, c := range list {
			if c.Insert == insert {
				net.Changes = append(net.Changes, c)
			}
		}
	}
	return net
}

func TestNetBatch(t *testing.T) {
	for _, c := range []struct{ batch, want string }{
		{"", ""},
		{"+1:0a1", "+1:0a1"},
		{"-1:0a1", "-1:0a1"},
		{"+1:0a1 -1:0a1", ""},
		{"-1:0a1 +1:0a1", ""},
		{"+9:0b0 -1:0a1 -9:0b0 +1:0a1 -1:0a1", "-1:0a1"},
		{"+1:0a1 -2:0a1 +3:0a1 -4:0a1", "-2:0a1 -4:0a1 +1:0a1 +3:0a1"},
		{"+9:0a1 +1:0a1 -8:0a1 -2:0a1", "-8:0a1 -2:0a1 +9:0a1 +1:0a1"},
		// Only an equal edge is removed, not another one with its ID.
		{"-1:0a1 +1:0b1", "-1:0a1 +1:0b1"},
		{"+1:0a1 -1:0a2", "-1:0a2 +1:0a1"},
		{"+1:0a1 -1:1a1", "-1:1a1 +1:0a1"},
		{"+1:0a1 -2:0a1", "-2:0a1 +1:0a1"},
		{"-1:0a1 +1:0b1 -1:0b1 +1:0a1", ""},
		{"-1:0a1 +1:0b1 -1:0b1 +1:0c1", "-1:0a1 +1:0c1"},
		// Equal changes stay, and the last one is removed.
		{"+1:0a1 +1:0a1", "+1:0a1 +1:0a1"},
		{"-1:0a1 -1:0a1", "-1:0a1 -1:0a1"},
		{"+1:0a1 +2:0a1 +1:0a1 -1:0a1", "+1:0a1 +2:0a1"},
		{"-1:0a1 -2:0a1 -1:0a1 -3:0a1 +1:0a1", "-1:0a1 -2:0a1 -3:0a1"},
		{"+1:0a1 +2:0a1 +1:0a1 -1:0a1 -1:0a1", "+2:0a1"},
		{"+1:0a1 +2:0a1 +1:0a1 -1:0a1 -1:0a1 -1:0a1", "-1:0a1 +2:0a1"},
		{"+1:0a1 +2:0a1 -1:0a1 +1:0a1", "+2:0a1 +1:0a1"},
		{"-1:0a1 +1:0a1 -1:0a1 +1:0a1 -1:0a1 +1:0a1 -1:0a1", "-1:0a1"},
	} {
		checkNet(t, batchOf(t, c.batch), batchOf(t, c.want))
	}
}

// NetBatch has no condition on the batch, neither on its length nor on its edges.
func TestNetBatchOfAnyBatch(t *testing.T) {
	for _, b := range anyBatches(t) {
		checkNet(t, b, wantedNet(b))
		checkNet(t, impl.NetBatch(b), wantedNet(b))
	}
	eachBatch(someChanges(t), 5, func(b impl.Batch) { checkNet(t, b, wantedNet(b)) })
	r := rand.New(rand.NewSource(66))
	for length := range 300 {
		b := impl.Batch{}
		for range length {
			b.Changes = append(b.Changes, impl.Change{Insert: r.Intn(2) == 0, Edge: impl.Edge{ID: r.Intn(3) - 1, From: r.Intn(2), Label: 7 * r.Intn(2)}})
		}
		checkNet(t, b, wantedNet(b))
	}
}

func checkBetween(t *testing.T, a impl.Graph, b impl.Graph, want impl.Batch, wantOk bool) {
	t.Helper()
	if batch, ok := impl.BatchBetween(a, b); ok != wantOk || !sameBatch(batch, want) {
		t.Fatalf("BatchBetween(%v, %v) = %v, %v; want %v, %v", a, b, batch, ok, want, wantOk)
	}
}

// wantedBetween compares two valid graphs without the program.
func wantedBetween(a impl.Graph, b impl.Graph) (impl.Batch, bool) {
	batch := impl.Batch{}
	for _, e := range a.Edges {
		if !slices.Contains(b.Edges, e) {
			batch.Changes = append(batch.Changes, impl.Change{Edge: e})
		}
	}
	for _, e := range b.Edges {
		if !slices.Contains(a.Edges, e) {
			batch.Changes = append(batch.Changes, impl.Change{Insert: true, Edge: e})
		}
	}
	if !slices.Equal(a.Values, b.Values) || len(batch.Changes) > 6 {
		return impl.Batch{}, false
	}
	return batch, true
}

// checkBetweenGraphs compares two valid graphs, and applies the batch between them.
func checkBetweenGraphs(t *testing.T, a impl.Graph, b impl.Graph) {
	t.Helper()
	want, wantOk := wantedBetween(a, b)
	checkBetween(t, a, b, want, wantOk)
	if batch, ok := impl.BatchBetween(a, b); ok {
		checkApplied(t, a, batch, b, true)
		checkNet(t, batch, batch)
	}
}

func TestBatchBetween(t *testing.T) {
	for _, c := range []struct{ a, b, want string }{
		{"0", "0", ""},
		{"012 1:0a1", "012 1:0a1", ""},
		{"012", "012 1:0a1", "+1:0a1"},
		{"012 1:0a1", "012", "-1:0a1"},
		{"012 1:0a1", "012 2:0a1", "-1:0a1 +2:0a1"},
		{"012 2:0a1", "012 1:0a1", "-2:0a1 +1:0a1"},
		{"012 1:0a1", "012 1:0b1", "-1:0a1 +1:0b1"},
		{"012 1:0a1", "012 1:0a2", "-1:0a1 +1:0a2"},
		{"012 1:0a1", "012 1:1a1", "-1:0a1 +1:1a1"},
		{"012 1:0a1 2:1b2 3:2a0 4:0a1", "012 2:1b2 3:2a0 4:0a1 7:2c2 8:0a1", "-1:0a1 +7:2c2 +8:0a1"},
		{"012 1:0a1 5:0a1 9:0a1", "012 2:0a1 5:0a1 8:0a1", "-1:0a1 -9:0a1 +2:0a1 +8:0a1"},
		{"012 1:0a1 2:0a1 3:0a1", "012 1:0b1 2:0b1 3:0b1", "-1:0a1 -2:0a1 -3:0a1 +1:0b1 +2:0b1 +3:0b1"},
		{"012", "012 1:0a1 2:0a1 3:0a1 4:0a1 97:0a1 99:0a1", "+1:0a1 +2:0a1 +3:0a1 +4:0a1 +97:0a1 +99:0a1"},
		{"012 1:0a1 2:0a1 3:0a1 4:0a1 97:0a1 99:0a1", "012", "-1:0a1 -2:0a1 -3:0a1 -4:0a1 -97:0a1 -99:0a1"},
	} {
		checkBetween(t, graphOf(t, c.a), graphOf(t, c.b), batchOf(t, c.want), true)
		checkBetweenGraphs(t, graphOf(t, c.a), graphOf(t, c.b))
	}
}

func TestBatchBetweenGraphs(t *testing.T) {
	graphs := append(validGraphs(t), batchGraphs(t)...)
	r := rand.New(rand.NewSource(666))
	for _, g := range validGraphs(t) {
		for range 5 {
			if h, ok := impl.ApplyBatch(g, randomBatch(g, r, 4)); ok {
				graphs = append(graphs, h)
			}
		}
	}
	for _, a := range graphs {
		for _, b := range graphs {
			checkBetweenGraphs(t, a, b)
		}
	}
}

// Exactly MaxChanges changes turn one graph into the other; one more would be too many.
func TestBatchBetweenMostChanges(t *testing.T) {
	full := chain(3, 12, 1, 1)
	for kept := range 13 {
		part := impl.Graph{Values: full.Values, Edges: full.Edges[:kept]}
		checkBetweenGraphs(t, full, part)
		checkBetweenGraphs(t, part, full)
		if _, ok := impl.BatchBetween(full, part); ok != (kept >= 6) {
			t.Errorf("%d deletions: BatchBetween = %v", 12-kept, ok)
		}
		if _, ok := impl.BatchBetween(part, full); ok != (kept >= 6) {
			t.Errorf("%d insertions: BatchBetween = %v", 12-kept, ok)
		}
		// All edges that are not kept change their label: each of them is deleted and inserted.
		other := cloneGraph(full)
		for i := range other.Edges[kept:] {
			other.Edges[kept+i].Label = (other.Edges[kept+i].Label + 1) % 3
		}
		checkBetweenGraphs(t, full, other)
		if _, ok := impl.BatchBetween(full, other); ok != (kept >= 9) {
			t.Errorf("%d other edges: BatchBetween = %v", 12-kept, ok)
		}
	}
	checkBetween(t, graphOf(t, "012 1:0a1 2:0a1 3:0a1"), graphOf(t, "012 4:0a1 5:0a1 6:0a1 7:0a1"), impl.Batch{}, false)
	checkBetween(t, graphOf(t, "012 1:0a1 2:0a1 3:0a1 7:0a1"), graphOf(t, "012 4:0a1 5:0a1 6:0a1"), impl.Batch{}, false)
}

func TestBatchBetweenInvalid(t *testing.T) {
	for _, bad := range invalidGraphs(t) {
		checkBetween(t, bad, bad, impl.Batch{}, false)
		for _, good := range []impl.Graph{graphOf(t, goodGraph), graphOf(t, "012"), {Values: []int{0}}, {Values: bad.Values}} {
			if impl.IsValidGraph(good) {
				checkBetween(t, bad, good, impl.Batch{}, false)
				checkBetween(t, good, bad, impl.Batch{}, false)
			}
		}
	}
	// The graphs differ in their values.
	for _, c := range []struct{ a, b string }{
		{"0", "1"}, {"0", "00"}, {"00", "0"}, {"012", "021"}, {"012 1:0a1", "011 1:0a1"}, {"012 1:0a1", "0120 1:0a1"}, {"01 1:0a1", "11 1:0a1"}, {"22222", "22221"},
	} {
		checkBetween(t, graphOf(t, c.a), graphOf(t, c.b), impl.Batch{}, false)
		checkBetween(t, graphOf(t, c.b), graphOf(t, c.a), impl.Batch{}, false)
	}
}

func checkBatchesEqual(t *testing.T, a impl.Batch, b impl.Batch, want bool) {
	t.Helper()
	if impl.EqualBatches(a, b) != want || impl.EqualBatches(b, a) != want {
		t.Errorf("EqualBatches(%v, %v) = %v, %v; want %v", a, b, impl.EqualBatches(a, b), impl.EqualBatches(b, a), want)
	}
}

func TestEqualBatches(t *testing.T) {
	for i, a := range anyBatches(t) {
		checkBatchesEqual(t, a, cloneBatch(a), true)
		for _, b := range anyBatches(t)[i+1:] {
			checkBatchesEqual(t, a, b, false)
		}
		// A difference in a single field is a difference, in any place.
		for place, c := range a.Changes {
			for _, near := range append(edgesNear(c.Edge), impl.Edge{ID: c.Edge.ID + 1, From: c.Edge.From, To: c.Edge.To, Label: c.Edge.Label}) {
				other := cloneBatch(a)
				other.Changes[place].Edge = near
				checkBatchesEqual(t, a, other, false)
			}
			other := cloneBatch(a)
			other.Changes[place].Insert = !c.Insert
			checkBatchesEqual(t, a, other, false)
			checkBatchesEqual(t, a, impl.Batch{Changes: a.Changes[:place]}, false)
		}
	}
	checkBatchesEqual(t, impl.Batch{}, impl.Batch{Changes: []impl.Change{}}, true)
	checkBatchesEqual(t, impl.Batch{}, impl.Batch{Changes: []impl.Change{{}}}, false)
	// The order matters, also where the effect is the same.
	checkBatchesEqual(t, batchOf(t, "+1:0a1 +2:0a1"), batchOf(t, "+2:0a1 +1:0a1"), false)
	checkBatchesEqual(t, batchOf(t, "+1:0a1 -1:0a1"), impl.Batch{}, false)
}

func checkParsedBatch(t *testing.T, s string, want impl.Batch, wantOk bool) {
	t.Helper()
	if b, ok := impl.ParseBatch(s); ok != wantOk || !sameBatch(b, want) {
		t.Fatalf("ParseBatch(%q) = %v, %v; want %v, %v", s, b, ok, want, wantOk)
	}
}

// spelledBatch writes a batch of valid edges without the program.
func spelledBatch(b impl.Batch) string {
	var parts []string
	for _, c := range b.Changes {
		sign := '-'
		if c.Insert {
			sign = '+'
		}
		parts = append(parts, fmt.Sprintf("%c%d:%d%c%d", sign, c.Edge.ID, c.Edge.From, 'a'+c.Edge.Label, c.Edge.To))
	}
	return strings.Join(parts, " ")
}

func checkBatchRoundTrip(t *testing.T, b impl.Batch) {
	t.Helper()
	if s := impl.FormatBatch(b); s != spelledBatch(b) {
		t.Fatalf("FormatBatch(%v) = %q; want %q", b, s, spelledBatch(b))
	}
	checkParsedBatch(t, spelledBatch(b), b, true)
}

func TestFormatBatch(t *testing.T) {
	deleted, inserted := impl.Edge{ID: 1, To: 1}, impl.Edge{ID: 7, From: 2, To: 2, Label: 2}
	for _, c := range []struct {
		batch impl.Batch
		want  string
	}{
		{impl.Batch{}, ""},
		{impl.Batch{Changes: []impl.Change{}}, ""},
		{impl.Batch{Changes: []impl.Change{{Edge: deleted}, {Insert: true, Edge: inserted}}}, "-1:0a1 +7:2c2"},
		{impl.Batch{Changes: []impl.Change{{Insert: true, Edge: deleted}}}, "+1:0a1"},
		{impl.Batch{Changes: []impl.Change{{Edge: inserted}}}, "-7:2c2"},
		{impl.Batch{Changes: []impl.Change{{Insert: true, Edge: impl.Edge{ID: 99, From: 4, To: 4, Label: 2}}}}, "+99:4c4"},
		{impl.Batch{Changes: []impl.Change{{Edge: inserted}, {Edge: inserted}, {Insert: true, Edge: inserted}}}, "-7:2c2 -7:2c2 +7:2c2"},
	} {
		if s := impl.FormatBatch(c.batch); s != c.want {
			t.Errorf("FormatBatch(%v) = %q; want %q", c.batch, s, c.want)
		}
		checkParsedBatch(t, c.want, c.batch, true)
	}
}

// Whether there is a graph to which the batch can be applied does not matter to its format.
func TestBatchRoundTrip(t *testing.T) {
	for _, e := range edgeFormats() {
		for _, c := range bothChanges(e) {
			checkBatchRoundTrip(t, impl.Batch{Changes: []impl.Change{c}})
		}
	}
	eachBatch(someChanges(t), 4, func(b impl.Batch) { checkBatchRoundTrip(t, b) })
	r := rand.New(rand.NewSource(6666))
	for length := range 7 {
		for range 500 {
			b := impl.Batch{}
			for range length {
				b.Changes = append(b.Changes, impl.Change{Insert: r.Intn(2) == 0, Edge: impl.Edge{ID: 1 + r.Intn(99), From: r.Intn(5), To: r.Intn(5), Label: r.Intn(3)}})
			}
			checkBatchRoundTrip(t, b)
		}
	}
}

func TestFormatBatchInvalid(t *testing.T) {
	// Some of invalidEdges have a format: the nodes 3 and 4 exist in other graphs.
	for _, e := range append(invalidEdges(), impl.Edge{}, impl.Edge{ID: 99, From: 5}, impl.Edge{ID: 1, To: 5}, impl.Edge{ID: 1, Label: 3}) {
		for length := 1; length <= 6; length++ {
			for place := range length {
				for _, c := range bothChanges(e) {
					b := impl.Batch{Changes: slices.Repeat([]impl.Change{{Insert: place%2 == 0, Edge: impl.Edge{ID: 1}}}, length)}
					b.Changes[place] = c
					if impl.FormatEdge(e) != "" {
						checkBatchRoundTrip(t, b)
					} else if s := impl.FormatBatch(b); s != "" {
						t.Fatalf("FormatBatch(%v) = %q; want the empty string", b, s)
					}
				}
			}
		}
	}
}

// The format has at most MaxChanges changes, in both directions.
func TestFormatsOfMostChanges(t *testing.T) {
	for _, c := range batchOf(t, "+1:0a0 -99:4c4").Changes {
		for _, length := range []int{5, 6, 7, 8, 1000} {
			b := impl.Batch{Changes: slices.Repeat([]impl.Change{c}, length)}
			if length <= 6 {
				checkBatchRoundTrip(t, b)
				continue
			}
			if s := impl.FormatBatch(b); s != "" {
				t.Errorf("the format of %d changes is %q", length, s)
			}
			checkParsedBatch(t, spelledBatch(b), impl.Batch{}, false)
		}
	}
	longest := strings.Repeat("+1:0a0 ", 5) + "-99:4c4"
	checkParsedBatch(t, longest, batchOf(t, longest), true)
	for _, more := range []string{" ", "  ", "-", "+", " +", " -", "0", " +2:0a0", " -2:0a0", " 2:0a0", " +0:0a0", " x", " +2:0a0 +3:0a0", "\n", "\x00"} {
		checkParsedBatch(t, longest+more, impl.Batch{}, false)
	}
}

func TestParseBatchInvalid(t *testing.T) {
	for _, s := range []string{
		" ", "  ", "\n", "\x00", "+", "-", "+-", "-+", "()", "none", "+ ", " +", "- -", "+ +", "+:", "+1", "-1:", "+1:0", "+1:0a", "-:0a1",
		"1:0a1", "1:0a1 +2:0a1", "+1:0a1 2:0a1", "-1:0a1 2:0a1", "+1:0a1 -2:0a1 3:0a1",
		"++1:0a1", "--1:0a1", "+-1:0a1", "-+1:0a1", "+1:0a1+", "-1:0a1-", "+1:+0a1", "-1:-0a1", "-1:0a-1", "+1+:0a1", "-1:0a-", "*1:0a1", "=1:0a1", "~1:0a1", "a1:0a1", "\u22121:0a1", "\uff0b1:0a1",
		" +1:0a1", "+1:0a1 ", "  -1:0a1", "-1:0a1  ", "+ 1:0a1", "- 1:0a1", "+1 :0a1", "+1: 0a1", "+1:0 a1", "+1:0a 1",
		"+1:0a1  +2:0a1", "+1:0a1 +2:0a1 ", " +1:0a1 +2:0a1", "-1:0a1+2:0a1", "-1:0a1-2:0a1", "+1:0a1,+2:0a1", "+1:0a1\t+2:0a1", "+1:0a1\n+2:0a1", "+1:0a1\u00a0+2:0a1", "+1:0a1;-2:0a1", "+1:0a1 + 2:0a1", "+1:0a1 - 2:0a1", "+1:0a1 +", "+1:0a1 -", "+ +1:0a1",
		"+1:0a1\n", "-1:0a1\x00", "\t+1:0a1", "\x00-1:0a1", "+1:0a1 \n", "\xff1:0a1", "+\xff:0a1", "+1:0a1\xff",
		"+0:0a1", "-0:0a1", "+00:0a1", "+01:0a1", "-01:0a1", "+100:0a1", "-100:0a1", "+999:0a1", "-1000000000:0a1", "+4294967297:0a1", "+18446744073709551617:0a1",
		"+1:5a1", "-1:0a5", "+1:9a1", "-1:0a9", "+1:-1a1", "-1:0a-1", "+1:10a1", "-1:0a10", "+1:0d1", "-1:0A1", "+1:001", "-1:0a-1", "+1:0aa1", "+1:0ab1", "-1::0a1", "-1;0a1", "+1:/a1",
		"+1:0a1 +0:0a1", "+1:0a1 -100:0a1", "+1:0a1 x", "x +1:0a1", "+1:0a1 +2:0d1", "+0:0a1 +1:0a1", "012 1:0a1", "012 +1:0a1", "0 1- 2", "a b",
		strings.Repeat("+", 1000), strings.Repeat(" ", 1000), strings.Repeat("-1:0a1", 1000), "+" + strings.Repeat("1", 1000) + ":0a1", strings.Repeat("+1:0a1 ", 100000), strings.Repeat(" -1:0a1", 6),
	} {
		checkParsedBatch(t, s, impl.Batch{}, false)
	}
	checkParsedBatch(t, "", impl.Batch{}, true)
}

var batchFormat = regexp.MustCompile(`^[+-][1-9][0-9]?:[0-4][abc][0-4]( [+-][1-9][0-9]?:[0-4][abc][0-4]){0,5}$`)

// checkBatchAccepted accepts the string exactly if it has the form of a format; then it must be the format of what was read.
func checkBatchAccepted(t *testing.T, s string) {
	t.Helper()
	b, ok := impl.ParseBatch(s)
	if ok != (s == "" || batchFormat.MatchString(s)) {
		t.Fatalf("ParseBatch(%q) = %v, %v", s, b, ok)
	}
	if ok && (spelledBatch(b) != s || impl.FormatBatch(b) != s) || !ok && !sameBatch(b, impl.Batch{}) {
		t.Fatalf("ParseBatch(%q) = %v, %v", s, b, ok)
	}
}

func TestParseBatchAcceptsNothingElse(t *testing.T) {
	check := func(s string) { checkBatchAccepted(t, s) }
	eachString(allBytes(), 2, check)
	eachString("+-0145:ac ", 6, check)
	eachString("+1:a ", 8, check)
	for _, s := range []string{"+1:0a1", "-99:4c4", "-1:0a1 +7:2c2", "+10:3b0 +10:3b0 -9:4a4", strings.Repeat("-42:2b3 ", 5) + "+42:3b2"} {
		eachStringNear(s, check)
	}
}

// roomyBatch returns the batch with unused capacity in its list, and the memory behind it.
func roomyBatch(b impl.Batch) (impl.Batch, []impl.Change) {
	memory := slices.Repeat([]impl.Change{{Insert: true, Edge: impl.Edge{ID: 77, From: 7, To: 7, Label: 7}}}, len(b.Changes)+10)
	copy(memory, b.Changes)
	return impl.Batch{Changes: memory[:len(b.Changes)]}, memory
}

// scribbleChanges overwrites a list of changes, its unused capacity included.
func scribbleChanges(list []impl.Change) {
	for i := range list[:cap(list)] {
		list[:cap(list)][i] = impl.Change{Insert: true, Edge: impl.Edge{ID: 1000, From: 1000, To: 1000, Label: 1000}}
	}
}

// someBatches returns batches that can be applied to goodGraph, and such that cannot.
func someBatches(t *testing.T) []impl.Batch {
	return append([]impl.Batch{
		{}, batchOf(t, "+99:0a0"), batchOf(t, "+3:0a0"), batchOf(t, "-98:2c2"), batchOf(t, "-1:0a1"), batchOf(t, "-1:0a1 +1:0a1"), batchOf(t, "+99:0a0 -99:0a0"),
		batchOf(t, "-1:0a1 -2:1b2 +2:0a0 +50:1c1 -9:0a1 +99:0a0"), batchOf(t, "-98:2c2 +99:0a0 +98:1a1 -99:0a0"), batchOf(t, "-1:0a1 +99:0a0 -2:0a0"),
	}, anyBatches(t)...)
}

func TestBatchArgumentsStay(t *testing.T) {
	for _, g := range append(invalidGraphs(t), graphOf(t, goodGraph), graphOf(t, "012")) {
		for _, b := range someBatches(t) {
			graph, graphMemory := roomyGraph(g)
			batch, batchMemory := roomyBatch(b)
			graphBefore, batchBefore := cloneGraph(graphMemory), slices.Clone(batchMemory)
			out, _ := impl.ApplyBatch(graph, batch)
			between, _ := impl.BatchBetween(graph, out)
			back, _ := impl.BatchBetween(graphOf(t, "012 1:0a1"), graph)
			scribble(out)
			for _, result := range []impl.Batch{between, back, impl.InvertBatch(batch), impl.NetBatch(batch)} {
				scribbleChanges(result.Changes)
			}
			impl.IsApplicable(graph, batch)
			impl.EqualBatches(batch, batch)
			impl.EqualBatches(batch, impl.Batch{Changes: batch.Changes[:len(batch.Changes)/2]})
			impl.FormatBatch(batch)
			if !sameGraph(graphMemory, graphBefore) || !slices.Equal(batchMemory, batchBefore) {
				t.Fatalf("the arguments %v and %v have changed", g, b)
			}
		}
	}
}

func TestApplyBatchResultIsNewMemory(t *testing.T) {
	for _, g := range append(invalidGraphs(t), graphOf(t, goodGraph), graphOf(t, "012"), chain(3, 12, 1, 1)) {
		for _, b := range someBatches(t) {
			graph, graphMemory := roomyGraph(g)
			batch, batchMemory := roomyBatch(b)
			first, _ := impl.ApplyBatch(graph, batch)
			want := cloneGraph(first)
			second, _ := impl.ApplyBatch(graph, batch)
			scribble(second)
			scribble(graphMemory)
			scribbleChanges(batchMemory)
			if !sameGraph(first, want) {
				t.Fatalf("the result of ApplyBatch(%v, %v) shares memory", g, b)
			}
		}
	}
}

func TestBatchResultsAreNewMemory(t *testing.T) {
	for _, b := range someBatches(t) {
		for name, call := range map[string]func(b impl.Batch) impl.Batch{"InvertBatch": impl.InvertBatch, "NetBatch": impl.NetBatch} {
			batch, memory := roomyBatch(b)
			first := call(batch)
			want := cloneBatch(first)
			scribbleChanges(call(batch).Changes)
			scribbleChanges(memory)
			if !sameBatch(first, want) {
				t.Fatalf("the result of %s(%v) shares memory", name, b)
			}
		}
	}
	for _, b := range someBatches(t) {
		if s := impl.FormatBatch(b); s != "" {
			first, _ := impl.ParseBatch(s)
			again, _ := impl.ParseBatch(s)
			scribbleChanges(again.Changes)
			if !sameBatch(first, b) {
				t.Fatalf("the results of ParseBatch(%q) share memory", s)
			}
		}
	}
}
