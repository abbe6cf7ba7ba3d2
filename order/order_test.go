package order

import (
	"math/rand"
	"reflect"
	"slices"
	"strconv"
	"strings"
	"sync"
	"testing"

	"crucible/api"
)

// out is edge i's output at place k.
func out(i, k int) string {
	return "f" + strconv.Itoa(i) + "/" + strconv.Itoa(k)
}

// graphOf is a graph of n edges with outs Outs each; needs tells by which list (1 to 3, 0 for none) edge i takes something of edge j.
func graphOf(n, outs int, needs func(i, j int) int) api.Graph {
	var g api.Graph
	for i := range n {
		e := api.Edge{Command: "make"}
		for k := range outs {
			e.Outs = append(e.Outs, out(i, k))
		}
		for j := range n {
			if list := needs(i, j); list > 0 {
				put(&e, list, out(j, (i+j)%outs))
			}
		}
		g.Edges = append(g.Edges, e)
	}
	return g
}

// put puts a name behind those of one of the three lists.
func put(e *api.Edge, list int, name string) {
	place := []*[]string{&e.Ins, &e.Implicit, &e.Order}[list-1]
	*place = append(*place, name)
}

func want(t *testing.T, g api.Graph, row []int, want api.Errno) {
	t.Helper()
	got, e := Of(g)
	if !slices.Equal(got, row) || e != want {
		t.Fatalf("P10.1: %v: %v, %d; want %v, %d", g, got, e, row, want)
	}
}

// rows are all rows of n numbers, the least first.
func rows(n int) [][]int {
	all := [][]int{nil}
	for range n {
		var longer [][]int
		for _, row := range all {
			for i := range n {
				if !slices.Contains(row, i) {
					longer = append(longer, append(slices.Clone(row), i))
				}
			}
		}
		all = longer
	}
	return all
}

// The least of all rows in which each stands behind what it needs, or none: so the order may be told without making it step by step.
func first(all [][]int, needs func(i, j int) int) []int {
	at := slices.IndexFunc(all, func(row []int) bool {
		for k, i := range row {
			if slices.ContainsFunc(row[k:], func(j int) bool { return needs(i, j) > 0 }) {
				return false
			}
		}
		return true
	})
	if at < 0 {
		return nil
	}
	return all[at]
}

func TestAllNeedsOfFewEdges(t *testing.T) {
	for n := range 5 {
		all := rows(n)
		for bits := range 1 << (n * n) {
			needs := func(i, j int) int {
				if bits>>(i*n+j)&1 == 0 {
					return 0
				}
				return 1 + (i+j+bits)%3
			}
			row := first(all, needs)
			if row == nil && n > 0 {
				want(t, graphOf(n, 1, needs), nil, api.ErrOrderCycle)
			} else {
				want(t, graphOf(n, 1, needs), row, api.OK)
			}
		}
	}
}

// A need stands in any list, at any place of it, and names any output.
func TestEachPlaceOfANeed(t *testing.T) {
	for list := 1; list <= 3; list++ {
		for place := range api.MaxList {
			for k := range api.MaxList {
				g := graphOf(3, api.MaxList, func(i, j int) int { return 0 })
				for i := range api.MaxList {
					name := "source"
					if i == place {
						name = out(2, k)
					}
					put(&g.Edges[0], list, name)
				}
				want(t, g, []int{1, 2, 0}, api.OK)
				put(&g.Edges[2], 1+k%3, out(0, place))
				want(t, g, nil, api.ErrOrderCycle)
			}
		}
	}
}

func TestNothingIsNeeded(t *testing.T) {
	want(t, api.Graph{}, nil, api.OK)
	want(t, api.Graph{Edges: []api.Edge{}, Defaults: []string{"none"}}, nil, api.OK)
	for n := range api.MaxEdges + 1 {
		var row []int
		for i := range n {
			row = append(row, i)
		}
		want(t, graphOf(n, 1, func(i, j int) int { return 0 }), row, api.OK)
	}
	// Names that are near to those that are made are sources, and a command, a pool or a default is no need.
	g := api.Graph{Edges: []api.Edge{
		{Outs: []string{"x"}, Ins: []string{"a.o"}, Implicit: []string{"a/b/c", "b"}, Order: []string{"ab", "make"}, Command: "a", Pool: "a"},
		{Outs: []string{"a", "a/b"}, Command: "make"},
	}, Pools: []api.Pool{{Name: "a", Depth: 1}}, Defaults: []string{"a"}}
	want(t, g, []int{0, 1}, api.OK)
}

// What one takes several times is one need, and two may need one.
func TestNeedsThatStandSeveralTimes(t *testing.T) {
	g := graphOf(3, 2, func(i, j int) int { return 0 })
	for i := range 2 {
		for list := 1; list <= 3; list++ {
			for range 2 {
				put(&g.Edges[i], list, out(2, 0))
				put(&g.Edges[i], list, out(2, 1))
			}
		}
	}
	want(t, g, []int{2, 0, 1}, api.OK)
}

// After each one that is told, the least is looked for from the first on.
func TestTheLeastComesAgain(t *testing.T) {
	needs := map[[2]int]int{{0, 2}: 1, {1, 4}: 2}
	want(t, graphOf(5, 1, func(i, j int) int { return needs[[2]int{i, j}] }), []int{2, 0, 3, 4, 1}, api.OK)
	needs = map[[2]int]int{{0, 3}: 3, {1, 0}: 1, {2, 1}: 2}
	want(t, graphOf(4, 1, func(i, j int) int { return needs[[2]int{i, j}] }), []int{3, 0, 1, 2}, api.OK)
}

func TestMostEdges(t *testing.T) {
	const n = api.MaxEdges
	var up, down []int
	for i := range n {
		up, down = append(up, i), append(down, n-1-i)
	}
	want(t, graphOf(n, api.MaxList, func(i, j int) int { return after(j == i+1, i) }), down, api.OK)
	want(t, graphOf(n, api.MaxList, func(i, j int) int { return after(j == i-1, i) }), up, api.OK)
	want(t, graphOf(n, api.MaxList, func(i, j int) int { return after(j > i && j <= i+api.MaxList, j) }), down, api.OK)
	want(t, graphOf(n, api.MaxList, func(i, j int) int { return after(j == (i+1)%n, i) }), nil, api.ErrOrderCycle)
	want(t, graphOf(n, api.MaxList, func(i, j int) int { return after(j == (i+n-1)%n, i) }), nil, api.ErrOrderCycle)
}

// after is a list for a need, if there is one.
func after(is bool, list int) int {
	if !is {
		return 0
	}
	return 1 + list%3
}

// One cycle, of one edge or of two, at whichever place, is told of, whatever else has an order.
func TestCyclesAmongOthers(t *testing.T) {
	for a := range api.MaxEdges {
		for b := range a + 1 {
			for list := 1; list <= 3; list++ {
				g := graphOf(api.MaxEdges, 1, func(i, j int) int { return 0 })
				put(&g.Edges[a], list, out(b, 0))
				if a != b {
					put(&g.Edges[b], 1+(list+a)%3, out(a, 0))
				}
				want(t, g, nil, api.ErrOrderCycle)
			}
		}
	}
	// Of one edge's own outputs, a later one is a need as well.
	want(t, api.Graph{Edges: []api.Edge{{Outs: []string{"a", "b"}, Order: []string{"b"}, Command: "c"}}}, nil, api.ErrOrderCycle)
}

// Graphs by chance: each step takes the least one that may be told, by what the graph itself says.
func TestByChance(t *testing.T) {
	r := rand.New(rand.NewSource(10))
	for range 500 {
		n := 1 + r.Intn(api.MaxEdges)
		rank := r.Perm(n)
		g := graphOf(n, 1+r.Intn(api.MaxList), func(i, j int) int {
			return after(rank[j] < rank[i] && r.Intn(8) < 3, r.Intn(3))
		})
		if slices.ContainsFunc(g.Edges, func(e api.Edge) bool {
			return max(len(e.Ins), len(e.Implicit), len(e.Order)) > api.MaxList
		}) {
			continue
		}
		row, e := Of(g)
		if e != api.OK || len(row) != n {
			t.Fatalf("P10.1: %v: %v, %d", g, row, e)
		}
		for k := range row {
			for i := range row[k] {
				if !slices.Contains(row[:k], i) && may(g, row[:k], i) {
					t.Fatalf("P10.1: %v: %v: %d comes ahead of what is at place %d", g, row, i, k)
				}
			}
			if slices.Contains(row[:k], row[k]) || !may(g, row[:k], row[k]) {
				t.Fatalf("P10.1: %v: %v: place %d", g, row, k)
			}
		}
	}
}

// may: is all that an edge takes a source, or made by one that is told?
func may(g api.Graph, told []int, edge int) bool {
	open := map[string]int{}
	for i, e := range g.Edges {
		if !slices.Contains(told, i) {
			for _, s := range e.Outs {
				open[s]++
			}
		}
	}
	left := 0
	for _, s := range slices.Concat(g.Edges[edge].Ins, g.Edges[edge].Implicit, g.Edges[edge].Order) {
		left += open[s]
	}
	return left == 0
}

func TestWrongGraphs(t *testing.T) {
	cycle := graphOf(2, 1, func(i, j int) int { return 1 })
	nine := slices.Repeat([]string{"x"}, api.MaxList+1)
	ok := api.Edge{Outs: []string{"a"}, Command: "c"}
	for _, wrong := range []func(g *api.Graph){
		func(g *api.Graph) { g.Edges = append(g.Edges, api.Edge{}) },
		func(g *api.Graph) { g.Edges = append(g.Edges, ok, ok) },
		func(g *api.Graph) { g.Edges = append(g.Edges, api.Edge{Outs: []string{"a", "a"}, Command: "c"}) },
		func(g *api.Graph) { g.Edges = append(g.Edges, api.Edge{Outs: []string{"a"}, Ins: nine, Command: "c"}) },
		func(g *api.Graph) {
			g.Edges = append(g.Edges, api.Edge{Outs: []string{"a"}, Order: []string{"./a"}, Command: "c"})
		},
		func(g *api.Graph) {
			g.Edges = append(g.Edges, api.Edge{Outs: []string{"a"}, Command: strings.Repeat("c", api.MaxEval+1)})
		},
		func(g *api.Graph) { g.Edges = append(g.Edges, api.Edge{Outs: []string{"a"}, Command: "c", Pool: "p"}) },
		func(g *api.Graph) {
			for i := range api.MaxEdges + 1 {
				g.Edges = append(g.Edges, api.Edge{Outs: []string{"o" + strconv.Itoa(i)}, Command: "c"})
			}
		},
		func(g *api.Graph) { g.Edges = make([]api.Edge, 1<<20) },
		func(g *api.Graph) { g.Pools = []api.Pool{{Name: "p"}} },
		func(g *api.Graph) { g.Pools = []api.Pool{{Name: "p", Depth: 1}, {Name: "p", Depth: 1}} },
		func(g *api.Graph) { g.Defaults = nine },
		func(g *api.Graph) { g.Defaults = []string{"/a"} },
	} {
		// With a cycle or without one: the form is told first.
		for _, from := range []api.Graph{{}, graphOf(1, 1, func(i, j int) int { return 0 }), cycle} {
			g := api.Graph{Edges: slices.Clone(from.Edges)}
			wrong(&g)
			want(t, g, nil, api.ErrOrderForm)
		}
	}
	cycle.Edges[1].Outs[0] = out(0, 0)
	want(t, cycle, nil, api.ErrOrderForm)
}

// spare is a graph all of whose lists have spare room, with something in it.
func spare() api.Graph {
	g := graphOf(4, 2, func(i, j int) int { return after(j == i+1, i) })
	for i := range g.Edges {
		e := &g.Edges[i]
		for _, list := range []*[]string{&e.Outs, &e.Ins, &e.Implicit, &e.Order} {
			*list = append(*list, "spare")[:len(*list)]
		}
	}
	g.Edges = append(g.Edges, api.Edge{Command: "spare"})[:4]
	g.Defaults = append(g.Defaults, "a", "spare")[:1]
	return g
}

// grown is the graph with its spare room.
func grown(g api.Graph) api.Graph {
	var es []api.Edge
	for _, e := range g.Edges[:cap(g.Edges)] {
		for _, list := range []*[]string{&e.Outs, &e.Ins, &e.Implicit, &e.Order} {
			*list = (*list)[:cap(*list)]
		}
		es = append(es, e)
	}
	return api.Graph{Edges: es, Defaults: g.Defaults[:cap(g.Defaults)]}
}

func TestArgumentStays(t *testing.T) {
	g := spare()
	want(t, g, []int{3, 2, 1, 0}, api.OK)
	if !reflect.DeepEqual(grown(g), grown(spare())) {
		t.Error("R4: what was handed in was changed")
	}
	g.Edges[3].Order = []string{out(0, 1)}
	want(t, g, nil, api.ErrOrderCycle)
	g.Edges[3].Order = spare().Edges[3].Order
	if !reflect.DeepEqual(grown(g), grown(spare())) {
		t.Error("R4: what was handed in was changed")
	}
}

func TestAnswerIsNewMemory(t *testing.T) {
	g := spare()
	one, _ := Of(g)
	two, _ := Of(g)
	for i := range one[:cap(one)] {
		one[:cap(one)][i] = -1
	}
	if !slices.Equal(two, []int{3, 2, 1, 0}) {
		t.Errorf("R4: two answers share memory: %v", two)
	}
	want(t, g, []int{3, 2, 1, 0}, api.OK)
}

func TestFromSeveralGoroutines(t *testing.T) {
	g := spare()
	cycle := graphOf(api.MaxEdges, 1, func(i, j int) int { return after(j == (i+1)%api.MaxEdges, i) })
	var all sync.WaitGroup
	for range 8 {
		all.Go(func() {
			for range 50 {
				if row, e := Of(g); !slices.Equal(row, []int{3, 2, 1, 0}) || e != api.OK {
					t.Errorf("R5: %v, %d", row, e)
				}
				if row, e := Of(cycle); row != nil || e != api.ErrOrderCycle {
					t.Errorf("R5: %v, %d", row, e)
				}
			}
		})
	}
	all.Wait()
}
