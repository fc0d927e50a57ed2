package tests

import (
	"math"
	"math/rand"
	"slices"
	"testing"

	"loop.example/g01922/impl"
)

// historyOf builds a history without the functions under test.
func historyOf(t *testing.T, first int, graphs ...string) impl.History {
	t.Helper()
	h := impl.History{First: first}
	for _, s := range graphs {
		h.Graphs = append(h.Graphs, graphOf(t, s))
	}
	return h
}

// growing returns a history of this many graphs; all of them differ, and the latest one has the most edges.
func growing(first int, graphs int) impl.History {
	h := impl.History{First: first}
	for i := range graphs {
		h.Graphs = append(h.Graphs, chain(3, i, 1, 2))
	}
	return h
}

func sameHistory(a impl.History, b impl.History) bool {
	return a.First == b.First && slices.EqualFunc(a.Graphs, b.Graphs, sameGraph)
}

func cloneHistory(h impl.History) impl.History {
	out := impl.History{First: h.First}
	for _, g := range h.Graphs {
		out.Graphs = append(out.Graphs, cloneGraph(g))
	}
	return out
}

func validHistories(t *testing.T) []impl.History {
	list := []impl.History{
		historyOf(t, 1, "012"),
		historyOf(t, 5, "012 1:0a1 2:1b2 3:2a0 4:0a1", "012 2:1b2 3:2a0 4:0a1"),
		historyOf(t, 998, goodGraph, "012"),
		historyOf(t, 40, "0", "0 1:0a0", "0", "0 1:0b0"),
		historyOf(t, 41, "21", "21", "21"),
		{First: 500, Graphs: []impl.Graph{{Values: []int{2}, Edges: []impl.Edge{}}, {Values: []int{2}}}},
		{First: 12, Graphs: []impl.Graph{chain(5, 12, 1, 1), chain(5, 12, 88, 1), chain(5, 0, 1, 1)}},
	}
	for graphs := 1; graphs <= 8; graphs++ {
		for _, first := range []int{1, 2, 7, 999 - graphs, 1000 - graphs} {
			list = append(list, growing(first, graphs))
		}
	}
	for _, g := range validGraphs(t) {
		list = append(list, impl.History{First: 300, Graphs: []impl.Graph{g}}, impl.History{First: 301, Graphs: []impl.Graph{g, cloneGraph(g)}})
	}
	return list
}

func invalidHistories(t *testing.T) []impl.History {
	list := []impl.History{
		{}, {First: 5}, {First: 1, Graphs: []impl.Graph{}}, {First: 999}, {First: 1000},
		growing(1, 9), growing(5, 10), growing(991, 9), growing(990, 9), growing(1, 12),
		{First: 1, Graphs: slices.Repeat([]impl.Graph{graphOf(t, "012")}, 1000)},
		historyOf(t, 1, "012", "021"),
		historyOf(t, 3, "012", "012", "112"),
		historyOf(t, 3, "012 1:0a1", "212 1:0a1", "012 1:0a1"),
		historyOf(t, 3, "012", "01"),
		historyOf(t, 3, "01", "012"),
		historyOf(t, 3, "0", "00", "000"),
		historyOf(t, 3, "01", "10"),
	}
	for graphs := 1; graphs <= 8; graphs++ {
		for _, first := range []int{0, -1, -2, -graphs, 1 - graphs, 1001 - graphs, 1002 - graphs, 1000, 1001, 1 << 32, math.MaxInt, math.MaxInt - graphs, math.MaxInt - graphs + 1, math.MaxInt - graphs + 2, math.MinInt, math.MinInt + 1} {
			if first < 1 || first > 1000-graphs {
				list = append(list, growing(first, graphs))
			}
		}
	}
	for _, g := range invalidGraphs(t) {
		good := impl.Graph{Values: g.Values}
		list = append(list,
			impl.History{First: 5, Graphs: []impl.Graph{g}},
			impl.History{First: 5, Graphs: []impl.Graph{g, good, good}},
			impl.History{First: 5, Graphs: []impl.Graph{good, g, good}},
			impl.History{First: 5, Graphs: []impl.Graph{good, good, g}})
	}
	return list
}

// versionsNear returns all versions of the history, such as are just outside, and such as are far away.
func versionsNear(h impl.History) []int {
	list := []int{math.MinInt, math.MinInt + 1, math.MinInt + 5, -1000, -999, -1, 0, 1, 2, 998, 999, 1000, 1 << 32, 1<<32 + 5, math.MaxInt - 7, math.MaxInt - 1, math.MaxInt}
	for by := -3; by <= len(h.Graphs)+3 && by <= 15; by++ {
		list = append(list, h.First+by)
	}
	return list
}

func checkAppended(t *testing.T, h impl.History, b impl.Batch, want impl.History, wantOk bool) {
	t.Helper()
	if out, ok := impl.AppendBatch(h, b); ok != wantOk || !sameHistory(out, want) {
		t.Fatalf("AppendBatch(%v, %v) = %v, %v; want %v, %v", h, b, out, ok, want, wantOk)
	}
}

func checkNotAppended(t *testing.T, h impl.History, b impl.Batch) {
	t.Helper()
	checkAppended(t, h, b, h, false)
}

func checkCompacted(t *testing.T, h impl.History, version int, want impl.History, wantOk bool) {
	t.Helper()
	if out, ok := impl.CompactHistory(h, version); ok != wantOk || !sameHistory(out, want) {
		t.Fatalf("CompactHistory(%v, %d) = %v, %v; want %v, %v", h, version, out, ok, want, wantOk)
	}
}

func checkGraphAt(t *testing.T, h impl.History, version int, want impl.Graph, wantOk bool) {
	t.Helper()
	if g, ok := impl.GraphAt(h, version); ok != wantOk || !sameGraph(g, want) {
		t.Fatalf("GraphAt(%v, %d) = %v, %v; want %v, %v", h, version, g, ok, want, wantOk)
	}
}

// checkLatest checks that this is the latest version of a valid history, and that it has this graph.
func checkLatest(t *testing.T, h impl.History, version int, g impl.Graph) {
	t.Helper()
	if !impl.IsValidHistory(h) || impl.LatestVersion(h) != version {
		t.Fatalf("IsValidHistory(%v) = %v, LatestVersion = %d; want version %d", h, impl.IsValidHistory(h), impl.LatestVersion(h), version)
	}
	checkGraphAt(t, h, version, g, true)
	checkGraphAt(t, h, version+1, impl.Graph{}, false)
}

// wantedAppend appends the batch to a valid history without the program.
func wantedAppend(h impl.History, b impl.Batch) (impl.History, bool) {
	g, ok := wantedApply(h.Graphs[len(h.Graphs)-1], b)
	if !ok || h.First+len(h.Graphs) > 999 {
		return h, false
	}
	graphs := append(slices.Clone(h.Graphs), g)
	if len(graphs) > 8 {
		return impl.History{First: h.First + 1, Graphs: graphs[1:]}, true
	}
	return impl.History{First: h.First, Graphs: graphs}, true
}

func checkAppend(t *testing.T, h impl.History, b impl.Batch) {
	t.Helper()
	want, wantOk := wantedAppend(h, b)
	checkAppended(t, h, b, want, wantOk)
	if wantOk {
		checkLatest(t, want, h.First+len(h.Graphs), want.Graphs[len(want.Graphs)-1])
	}
}

func TestHistoryConstants(t *testing.T) {
	if impl.MaxVersion != 999 || impl.MaxGraphs != 8 {
		t.Error("constants", impl.MaxVersion, impl.MaxGraphs)
	}
}

func TestIsValidHistory(t *testing.T) {
	for _, h := range validHistories(t) {
		if !impl.IsValidHistory(h) {
			t.Errorf("IsValidHistory(%v) = false", h)
		}
	}
	for _, h := range invalidHistories(t) {
		if impl.IsValidHistory(h) {
			t.Errorf("IsValidHistory(%v) = true", h)
		}
	}
}

// Every number of graphs is tried with every first version from below to above its range.
func TestIsValidHistorySizes(t *testing.T) {
	for graphs := range 12 {
		for first := -15; first <= 1015; first++ {
			want := graphs >= 1 && graphs <= 8 && first >= 1 && first+graphs-1 <= 999
			if h := growing(first, graphs); impl.IsValidHistory(h) != want {
				t.Fatalf("%d graphs from version %d: IsValidHistory = %v", graphs, first, !want)
			}
		}
	}
}

// A graph with other values, or an invalid graph, spoils the history in any place; other edges do not.
func TestIsValidHistoryGraphs(t *testing.T) {
	for graphs := 2; graphs <= 8; graphs++ {
		for place := range graphs {
			for _, s := range []string{"112", "002", "010", "021", "01", "0120", "12", "312", "000 1:3a0", "000 0:0a0", "000 2:0a0 1:0a0"} {
				h := growing(5, graphs)
				h.Graphs[place] = graphOf(t, s)
				if impl.IsValidHistory(h) {
					t.Errorf("IsValidHistory(%v) = true", h)
				}
			}
			h := growing(5, graphs)
			h.Graphs[place] = graphOf(t, "000 3:2c2 99:0a0")
			if !impl.IsValidHistory(h) {
				t.Errorf("IsValidHistory(%v) = false", h)
			}
			h.Graphs[place] = impl.Graph{}
			if impl.IsValidHistory(h) {
				t.Errorf("IsValidHistory(%v) = true", h)
			}
		}
	}
}

func checkNew(t *testing.T, g impl.Graph, version int, want impl.History, wantOk bool) {
	t.Helper()
	if h, ok := impl.NewHistory(g, version); ok != wantOk || !sameHistory(h, want) {
		t.Fatalf("NewHistory(%v, %d) = %v, %v; want %v, %v", g, version, h, ok, want, wantOk)
	}
}

func TestNewHistory(t *testing.T) {
	for _, g := range validGraphs(t) {
		for _, version := range []int{1, 2, 5, 500, 991, 992, 998, 999} {
			h := impl.History{First: version, Graphs: []impl.Graph{g}}
			checkNew(t, g, version, h, true)
			checkLatest(t, h, version, g)
		}
		for _, version := range []int{0, -1, -999, 1000, 1001, 1 << 32, 1<<32 + 1, math.MaxInt, math.MinInt} {
			checkNew(t, g, version, impl.History{}, false)
		}
	}
	for _, g := range invalidGraphs(t) {
		for _, version := range []int{-1, 0, 1, 5, 999, 1000, math.MaxInt} {
			checkNew(t, g, version, impl.History{}, false)
		}
	}
}

func TestLatestVersion(t *testing.T) {
	for _, h := range validHistories(t) {
		if version := impl.LatestVersion(h); version != h.First+len(h.Graphs)-1 {
			t.Errorf("LatestVersion(%v) = %d", h, version)
		}
	}
	for _, h := range invalidHistories(t) {
		if version := impl.LatestVersion(h); version != 0 {
			t.Errorf("LatestVersion(%v) = %d; want 0", h, version)
		}
	}
}

func TestGraphAt(t *testing.T) {
	for _, h := range validHistories(t) {
		for i, g := range h.Graphs {
			checkGraphAt(t, h, h.First+i, g, true)
		}
		for _, version := range versionsNear(h) {
			if version < h.First || version >= h.First+len(h.Graphs) {
				checkGraphAt(t, h, version, impl.Graph{}, false)
			}
		}
	}
	// Only the graphs count that are kept, also if there were versions before them.
	h := growing(100, 8)
	for version := 1; version <= 999; version++ {
		if version < 100 || version > 107 {
			checkGraphAt(t, h, version, impl.Graph{}, false)
		}
	}
}

// An invalid history has no versions, not even those whose graphs are there.
func TestInvalidHistories(t *testing.T) {
	batches := []impl.Batch{{}, batchOf(t, "+60:0a0"), batchOf(t, "-1:0a1"), batchOf(t, "+60:0a0 -60:0a0"), batchOf(t, "+0:0a0")}
	for _, h := range invalidHistories(t) {
		for _, version := range versionsNear(h) {
			checkGraphAt(t, h, version, impl.Graph{}, false)
			checkCompacted(t, h, version, h, false)
		}
		for _, b := range batches {
			checkNotAppended(t, h, b)
		}
		if len(h.Graphs) > 0 {
			for _, e := range h.Graphs[len(h.Graphs)-1].Edges {
				// Without this edge the last graph may be valid.
				checkNotAppended(t, h, oneChange(false, e))
			}
		}
	}
}

func TestAppendBatch(t *testing.T) {
	for _, c := range []struct {
		history impl.History
		batch   string
		want    impl.History
	}{
		{historyOf(t, 1, "012"), "", historyOf(t, 1, "012", "012")},
		{historyOf(t, 5, "012 1:0a1"), "-1:0a1", historyOf(t, 5, "012 1:0a1", "012")},
		{historyOf(t, 5, "012 1:0a1"), "+9:2c2 -1:0a1", historyOf(t, 5, "012 1:0a1", "012 9:2c2")},
		{historyOf(t, 5, "012 1:0a1", "012"), "+1:0a1", historyOf(t, 5, "012 1:0a1", "012", "012 1:0a1")},
		{historyOf(t, 5, "012", "012 1:0a1"), "-1:0a1 +1:0b1", historyOf(t, 5, "012", "012 1:0a1", "012 1:0b1")},
		{historyOf(t, 998, "012"), "+1:0a1", historyOf(t, 998, "012", "012 1:0a1")},
		{historyOf(t, 997, "0", "0 1:0a0"), "-1:0a0", historyOf(t, 997, "0", "0 1:0a0", "0")},
		{
			historyOf(t, 1, "0 1:0a0", "0 2:0a0", "0 3:0a0", "0 4:0a0", "0 5:0a0", "0 6:0a0", "0 7:0a0"), "-7:0a0 +8:0a0",
			historyOf(t, 1, "0 1:0a0", "0 2:0a0", "0 3:0a0", "0 4:0a0", "0 5:0a0", "0 6:0a0", "0 7:0a0", "0 8:0a0"),
		},
		{
			historyOf(t, 1, "0 1:0a0", "0 2:0a0", "0 3:0a0", "0 4:0a0", "0 5:0a0", "0 6:0a0", "0 7:0a0", "0 8:0a0"), "-8:0a0 +9:0a0",
			historyOf(t, 2, "0 2:0a0", "0 3:0a0", "0 4:0a0", "0 5:0a0", "0 6:0a0", "0 7:0a0", "0 8:0a0", "0 9:0a0"),
		},
	} {
		checkAppended(t, c.history, batchOf(t, c.batch), c.want, true)
		checkAppend(t, c.history, batchOf(t, c.batch))
	}
}

// The batch is applied to the last graph; that it could be applied to an earlier one does not count.
func TestAppendBatchRejected(t *testing.T) {
	h := historyOf(t, 5, "012 1:0a1", "012 2:0a1", "012 3:0a1")
	for _, batch := range []string{
		"-1:0a1", "-2:0a1", "+3:0a1", "+3:0b1", "-3:0b1", "-3:0a1 -3:0a1", "+1:0a1 -2:0a1", "+0:0a0", "+100:0a0", "+50:0a3", "+50:0d0",
		"+11:0a0 +12:0a0 +13:0a0 +14:0a0 +15:0a0 +16:0a0 +17:0a0", "-3:0a1 +3:0a1 -3:0a1 +3:0a1 -3:0a1 +3:0a1 -3:0a1",
	} {
		checkNotAppended(t, h, batchOf(t, batch))
		checkAppend(t, h, batchOf(t, batch))
	}
	for _, batch := range []string{"+1:0a1", "+2:0a1", "-3:0a1", "-3:0a1 +3:0b1", "+11:0a0 +12:0a0 +13:0a0 +14:0a0 +15:0a0 +16:0a0"} {
		if _, ok := impl.AppendBatch(h, batchOf(t, batch)); !ok {
			t.Errorf("AppendBatch(%v, %s) = false", h, batch)
		}
	}
	full := impl.History{First: 5, Graphs: []impl.Graph{chain(3, 0, 1, 1), chain(3, 12, 1, 1)}}
	checkNotAppended(t, full, batchOf(t, "+50:0a0"))
	checkNotAppended(t, full, batchOf(t, "+50:0a0 -1:0a1"))
	checkAppend(t, full, batchOf(t, "-1:0a1 +50:0a0"))
}

func TestAppendBatchOfAllKinds(t *testing.T) {
	r := rand.New(rand.NewSource(7))
	appended := 0
	for _, h := range validHistories(t) {
		for _, b := range someBatches(t) {
			checkAppend(t, h, b)
		}
		last := h.Graphs[len(h.Graphs)-1]
		for _, e := range last.Edges {
			checkAppend(t, h, oneChange(false, e))
			checkAppend(t, h, oneChange(true, e))
		}
		for length := range 8 {
			b := randomBatch(last, r, length)
			checkAppend(t, h, b)
			if _, ok := impl.AppendBatch(h, b); ok {
				appended++
			}
		}
	}
	if appended < 200 {
		t.Errorf("only %d random batches are appended", appended)
	}
}

// As many graphs as are kept, one fewer and one more.
func TestAppendBatchToMostGraphs(t *testing.T) {
	for _, b := range []impl.Batch{{}, batchOf(t, "+98:0a0"), batchOf(t, "-1:0a1"), batchOf(t, "-1:0a1 +1:0a2"), batchOf(t, "+98:0a0 -98:0a0")} {
		for _, first := range []int{1, 2, 500, 990, 991} {
			fewer, most, more := growing(first, 7), growing(first, 8), growing(first, 9)
			checkAppend(t, fewer, b)
			if h, ok := impl.AppendBatch(fewer, b); !ok || h.First != first || len(h.Graphs) != 8 || impl.LatestVersion(h) != first+7 {
				t.Fatalf("a batch appended to 7 graphs from version %d: %v, %v", first, h, ok)
			}
			checkAppend(t, most, b)
			h, ok := impl.AppendBatch(most, b)
			if !ok || h.First != first+1 || len(h.Graphs) != 8 || impl.LatestVersion(h) != first+8 {
				t.Fatalf("a batch appended to 8 graphs from version %d: %v, %v", first, h, ok)
			}
			checkGraphAt(t, h, first, impl.Graph{}, false)
			checkGraphAt(t, h, first+1, most.Graphs[1], true)
			checkNotAppended(t, more, b)
		}
	}
	// A batch that is rejected removes no graph.
	checkNotAppended(t, growing(1, 8), batchOf(t, "+1:0a1"))
	checkNotAppended(t, growing(1, 7), batchOf(t, "+1:0a1"))
}

// No version follows the last one that there is, however many graphs are kept.
func TestLastVersion(t *testing.T) {
	for graphs := 1; graphs <= 8; graphs++ {
		for _, b := range []impl.Batch{{}, batchOf(t, "+98:0a0"), batchOf(t, "+98:0a0 -98:0a0")} {
			last, before := growing(1000-graphs, graphs), growing(999-graphs, graphs)
			checkNotAppended(t, last, b)
			checkAppend(t, last, b)
			h, ok := impl.AppendBatch(before, b)
			if !ok || impl.LatestVersion(h) != 999 || h.First != before.First+max(0, graphs-7) {
				t.Fatalf("AppendBatch(%v, %v) = %v, %v", before, b, h, ok)
			}
			checkNotAppended(t, h, b)
			compacted, ok := impl.CompactHistory(h, 999)
			if !ok || compacted.First != 999 || len(compacted.Graphs) != 1 {
				t.Fatalf("CompactHistory(%v, 999) = %v, %v", h, compacted, ok)
			}
			checkNotAppended(t, compacted, b)
		}
	}
}

// From the first version to the last one, the graphs of the latest eight versions are there, and no others.
func TestAllVersions(t *testing.T) {
	r := rand.New(rand.NewSource(77))
	g := graphOf(t, goodGraph)
	h, _ := impl.NewHistory(g, 1)
	graphs := map[int]impl.Graph{1: g}
	for version := 2; version <= 999; version++ {
		b := randomBatch(g, r, r.Intn(7))
		for !impl.IsApplicable(g, b) {
			b = randomBatch(g, r, r.Intn(7))
		}
		next, ok := impl.AppendBatch(h, b)
		if !ok {
			t.Fatalf("AppendBatch(%v, %v) = false", h, b)
		}
		g, _ = wantedApply(g, b)
		h, graphs[version] = next, g
		checkLatest(t, h, version, g)
		if h.First != max(1, version-7) {
			t.Fatalf("version %d: First = %d", version, h.First)
		}
		delete(graphs, version-8)
		for near := version - 10; near <= version+2; near++ {
			want, kept := graphs[near]
			checkGraphAt(t, h, near, want, kept)
		}
	}
	checkNotAppended(t, h, impl.Batch{})
}

// The inverse of an appended batch leads back to the graph before it, and its net batch to the same graph.
func TestAppendBatchUndone(t *testing.T) {
	r := rand.New(rand.NewSource(777))
	for _, h := range validHistories(t) {
		last := h.Graphs[len(h.Graphs)-1]
		for range 20 {
			b := randomBatch(last, r, 5)
			next, ok := impl.AppendBatch(h, b)
			if !ok {
				continue
			}
			net, ok := impl.AppendBatch(h, impl.NetBatch(b))
			if !ok || !sameHistory(net, next) {
				t.Fatalf("AppendBatch(%v, %v): the net batch leads to %v, %v", h, b, net, ok)
			}
			if version := impl.LatestVersion(next); version < 999 {
				undone, ok := impl.AppendBatch(next, impl.InvertBatch(b))
				if !ok {
					t.Fatalf("AppendBatch(%v, %v) cannot be undone", h, b)
				}
				checkLatest(t, undone, version+1, last)
			}
		}
	}
}

func TestCompactHistory(t *testing.T) {
	h := historyOf(t, 5, "012", "012 1:0a1", "012 2:0a1")
	checkCompacted(t, h, 4, h, false)
	checkCompacted(t, h, 5, h, true)
	checkCompacted(t, h, 6, historyOf(t, 6, "012 1:0a1", "012 2:0a1"), true)
	checkCompacted(t, h, 7, historyOf(t, 7, "012 2:0a1"), true)
	checkCompacted(t, h, 8, h, false)
	checkCompacted(t, historyOf(t, 1, "0"), 1, historyOf(t, 1, "0"), true)
	checkCompacted(t, historyOf(t, 1, "0"), 0, historyOf(t, 1, "0"), false)
	checkCompacted(t, historyOf(t, 999, "0"), 999, historyOf(t, 999, "0"), true)
	checkCompacted(t, historyOf(t, 999, "0"), 1000, historyOf(t, 999, "0"), false)
}

// The remaining versions keep their graphs, and the latest version stays the latest one.
func TestCompactAllHistories(t *testing.T) {
	for _, h := range validHistories(t) {
		latest := h.First + len(h.Graphs) - 1
		for i := range h.Graphs {
			version := h.First + i
			checkCompacted(t, h, version, impl.History{First: version, Graphs: h.Graphs[i:]}, true)
			compacted, _ := impl.CompactHistory(h, version)
			checkLatest(t, compacted, latest, h.Graphs[latest-h.First])
			for kept := version; kept <= latest; kept++ {
				checkGraphAt(t, compacted, kept, h.Graphs[kept-h.First], true)
			}
			for removed := h.First - 1; removed < version; removed++ {
				checkGraphAt(t, compacted, removed, impl.Graph{}, false)
				checkCompacted(t, compacted, removed, compacted, false)
			}
			checkAppend(t, compacted, impl.Batch{})
		}
		for _, version := range versionsNear(h) {
			if version < h.First || version > latest {
				checkCompacted(t, h, version, h, false)
			}
		}
	}
}

// After a compaction there is room again for as many versions as were removed.
func TestAppendAfterCompaction(t *testing.T) {
	for removed := range 8 {
		h, ok := impl.CompactHistory(growing(10, 8), 10+removed)
		if !ok {
			t.Fatalf("version %d is not there", 10+removed)
		}
		for appended := 1; appended <= 10; appended++ {
			checkAppend(t, h, impl.Batch{})
			h, _ = impl.AppendBatch(h, impl.Batch{})
			if first := 10 + max(removed, appended); h.First != first || impl.LatestVersion(h) != 17+appended {
				t.Fatalf("%d removed, %d appended: versions %d to %d", removed, appended, h.First, impl.LatestVersion(h))
			}
		}
	}
}

func checkHistoriesEqual(t *testing.T, a impl.History, b impl.History, want bool) {
	t.Helper()
	if impl.EqualHistories(a, b) != want || impl.EqualHistories(b, a) != want {
		t.Errorf("EqualHistories(%v, %v) = %v, %v; want %v", a, b, impl.EqualHistories(a, b), impl.EqualHistories(b, a), want)
	}
}

// graphsNear returns graphs that differ from this one in a single number or in a single element.
func graphsNear(g impl.Graph) []impl.Graph {
	var list []impl.Graph
	for place := range g.Values {
		other := cloneGraph(g)
		other.Values[place]++
		list = append(list, other, impl.Graph{Values: g.Values[:place], Edges: g.Edges})
	}
	for place, e := range g.Edges {
		for _, near := range append(edgesNear(e), impl.Edge{ID: e.ID + 1, From: e.From, To: e.To, Label: e.Label}) {
			other := cloneGraph(g)
			other.Edges[place] = near
			list = append(list, other)
		}
		list = append(list, impl.Graph{Values: g.Values, Edges: g.Edges[:place]})
	}
	return list
}

func TestEqualHistories(t *testing.T) {
	for _, h := range append(validHistories(t), invalidHistories(t)...) {
		checkHistoriesEqual(t, h, cloneHistory(h), true)
		for _, by := range []int{-1, 1, 8, 1 << 32, math.MinInt} {
			checkHistoriesEqual(t, h, impl.History{First: h.First + by, Graphs: h.Graphs}, false)
		}
		checkHistoriesEqual(t, h, impl.History{First: h.First, Graphs: append(slices.Clone(h.Graphs), impl.Graph{})}, false)
		if len(h.Graphs) > 20 {
			continue
		}
		for place, g := range h.Graphs {
			checkHistoriesEqual(t, h, impl.History{First: h.First, Graphs: h.Graphs[:place]}, false)
			for _, near := range graphsNear(chain(2, 2, 1, 1)) {
				other := cloneHistory(h)
				other.Graphs[place] = near
				checkHistoriesEqual(t, h, other, sameGraph(g, near))
			}
		}
	}
}

// A difference in any number of any graph is a difference.
func TestEqualHistoriesNear(t *testing.T) {
	for _, h := range []impl.History{growing(5, 8), historyOf(t, 1, goodGraph), historyOf(t, 0, "999 0:7a7 0:7a7", "012"), growing(1000, 9)} {
		for place, g := range h.Graphs {
			for _, near := range graphsNear(g) {
				other := cloneHistory(h)
				other.Graphs[place] = near
				checkHistoriesEqual(t, h, other, false)
			}
		}
	}
	checkHistoriesEqual(t, impl.History{}, impl.History{Graphs: []impl.Graph{}}, true)
	checkHistoriesEqual(t, impl.History{}, impl.History{Graphs: []impl.Graph{{}}}, false)
	checkHistoriesEqual(t, impl.History{Graphs: []impl.Graph{{}}}, impl.History{Graphs: []impl.Graph{{Values: []int{}, Edges: []impl.Edge{}}}}, true)
	// The order of the graphs matters, and equal graphs of other versions do not make equal histories.
	checkHistoriesEqual(t, historyOf(t, 5, "012", "012 1:0a1"), historyOf(t, 5, "012 1:0a1", "012"), false)
	checkHistoriesEqual(t, historyOf(t, 5, "012", "012"), historyOf(t, 6, "012"), false)
}

// roomyHistory returns the history with unused capacity in all its lists, and the memory behind them.
func roomyHistory(h impl.History) (impl.History, []impl.Graph) {
	memory := make([]impl.Graph, len(h.Graphs)+3)
	full := make([]impl.Graph, len(h.Graphs)+3)
	for i := range full {
		g := impl.Graph{Values: []int{7}, Edges: []impl.Edge{{ID: 77}}}
		if i < len(h.Graphs) {
			g = h.Graphs[i]
		}
		full[i], memory[i] = roomyGraph(g)
	}
	return impl.History{First: h.First, Graphs: full[:len(h.Graphs)]}, memory
}

// scribbleHistory overwrites a history, the unused capacity of its lists included.
func scribbleHistory(h impl.History) {
	for _, g := range h.Graphs[:cap(h.Graphs)] {
		scribble(g)
	}
	for i := range h.Graphs[:cap(h.Graphs)] {
		h.Graphs[:cap(h.Graphs)][i] = impl.Graph{Values: []int{1000}, Edges: []impl.Edge{{ID: 1000}}}
	}
}

// someHistories returns valid and invalid histories of few graphs.
func someHistories(t *testing.T) []impl.History {
	list := slices.DeleteFunc(invalidHistories(t), func(h impl.History) bool { return len(h.Graphs) > 20 })
	return append(list, validHistories(t)...)
}

// historyCalls returns calls that give a history for a history, with valid and with invalid arguments.
func historyCalls(t *testing.T, h impl.History) []func(h impl.History) impl.History {
	var calls []func(h impl.History) impl.History
	for _, batch := range []string{"", "+97:0a0", "-1:0a1", "+97:0a0 +1:0a1", "+0:0a0"} {
		b := batchOf(t, batch)
		calls = append(calls, func(h impl.History) impl.History {
			out, _ := impl.AppendBatch(h, b)
			return out
		})
	}
	for _, version := range []int{0, h.First, h.First + 1, h.First + 2, h.First + len(h.Graphs) - 1, h.First + len(h.Graphs)} {
		calls = append(calls, func(h impl.History) impl.History {
			out, _ := impl.CompactHistory(h, version)
			return out
		})
		calls = append(calls, func(h impl.History) impl.History {
			g, _ := impl.GraphAt(h, version)
			return impl.History{Graphs: []impl.Graph{g}}
		})
	}
	return append(calls, func(h impl.History) impl.History {
		if len(h.Graphs) == 0 {
			return impl.History{}
		}
		out, _ := impl.NewHistory(h.Graphs[0], h.First)
		return out
	})
}

func TestHistoryArgumentsStay(t *testing.T) {
	for _, h := range someHistories(t) {
		history, memory := roomyHistory(h)
		full, before := slices.Clone(history.Graphs[:cap(history.Graphs)]), cloneHistory(impl.History{Graphs: memory})
		for _, call := range historyCalls(t, h) {
			scribbleHistory(call(history))
		}
		impl.IsValidHistory(history)
		impl.LatestVersion(history)
		impl.EqualHistories(history, history)
		impl.EqualHistories(history, impl.History{First: h.First, Graphs: history.Graphs[:len(history.Graphs)/2]})
		// The graphs are the same ones in the same places, and the numbers behind them are the same.
		if !slices.EqualFunc(full, history.Graphs[:cap(history.Graphs)], sameGraph) || !slices.EqualFunc(memory, before.Graphs, sameGraph) {
			t.Fatalf("the argument %v has changed", h)
		}
	}
}

// AppendBatch changes the batch as little as the history.
func TestAppendBatchKeepsBatch(t *testing.T) {
	for _, h := range []impl.History{historyOf(t, 5, "012", goodGraph), growing(5, 8), {}} {
		for _, b := range someBatches(t) {
			batch, memory := roomyBatch(b)
			before := slices.Clone(memory)
			out, _ := impl.AppendBatch(h, batch)
			want := cloneHistory(out)
			if !slices.Equal(memory, before) {
				t.Fatalf("the argument %v has changed", b)
			}
			scribbleChanges(memory)
			if !sameHistory(out, want) {
				t.Fatalf("the result of AppendBatch(%v, %v) shares memory with the batch", h, b)
			}
		}
	}
}

func TestHistoryResultsAreNewMemory(t *testing.T) {
	for _, h := range someHistories(t) {
		for i, call := range historyCalls(t, h) {
			history, memory := roomyHistory(h)
			first := call(history)
			want := cloneHistory(first)
			scribbleHistory(call(history))
			for _, g := range memory {
				scribble(g)
			}
			scribbleHistory(history)
			if !sameHistory(first, want) {
				t.Fatalf("call %d: a result for %v shares memory", i, h)
			}
		}
	}
}

// The graphs of a result share no memory with each other, even if those of the argument do, or if a batch changes nothing.
func TestGraphsOfOneResult(t *testing.T) {
	g := graphOf(t, goodGraph)
	for graphs := 1; graphs <= 9; graphs++ {
		h := impl.History{First: 5, Graphs: slices.Repeat([]impl.Graph{g}, graphs)}
		for i, call := range historyCalls(t, h) {
			for place := range call(h).Graphs {
				out := call(h)
				want := cloneHistory(out)
				scribble(out.Graphs[place])
				out.Graphs[place] = want.Graphs[place]
				if !sameHistory(out, want) {
					t.Fatalf("call %d: the graphs of %v share memory", i, want)
				}
			}
		}
	}
}
