package graph

import (
	"reflect"
	"slices"
	"strconv"
	"strings"
	"sync"
	"testing"

	"crucible/api"
)

// made is an edge of those Outs.
func made(outs ...string) api.Edge {
	return api.Edge{Outs: outs, Command: "make"}
}

// full is the greatest graph there is: each output once, f0 to f127.
func full() api.Graph {
	g := api.Graph{Defaults: slices.Repeat([]string{"f0"}, api.MaxList)}
	for i := range api.MaxPools {
		g.Pools = append(g.Pools, api.Pool{Name: "p" + strconv.Itoa(i), Depth: 1 + i*(api.MaxDepth-1)/(api.MaxPools-1)})
	}
	for i := range api.MaxEdges {
		e := api.Edge{Command: strings.Repeat("~", api.MaxEval), Pool: g.Pools[i%api.MaxPools].Name, Deps: i%2 == 0}
		for j := range api.MaxList {
			e.Outs = append(e.Outs, "f"+strconv.Itoa(i*api.MaxList+j))
			e.Ins = append(e.Ins, "in")
			e.Implicit = append(e.Implicit, "f0")
			e.Order = append(e.Order, strings.Repeat("o", api.MaxName))
		}
		g.Edges = append(g.Edges, e)
	}
	return g
}

// wantAll holds all three calls against one error; with none, it holds Maker of name against at, which is below 0 where there is none.
func wantAll(t *testing.T, g api.Graph, name string, at int, want api.Errno) {
	t.Helper()
	if May(g) != (want != api.ErrGraphForm) {
		t.Errorf("P9.1: May(%v): not %v", g, want != api.ErrGraphForm)
	}
	if e := Check(g); e != want {
		t.Errorf("P9.1: Check(%v): %d; want %d", g, e, want)
	}
	got, is, e := Maker(g, name)
	if is != (at >= 0) || got != max(at, 0) || e != want {
		t.Errorf("P9.1: Maker(%v, %q): %d, %v, %d; want %d, %d", g, name, got, is, e, at, want)
	}
}

func wantForm(t *testing.T, g api.Graph) {
	t.Helper()
	for _, name := range []string{"a", "f0", ""} {
		wantAll(t, g, name, -1, api.ErrGraphForm)
	}
}

func TestGraphsThatMayBe(t *testing.T) {
	for _, g := range []api.Graph{
		{}, {Edges: []api.Edge{}, Pools: []api.Pool{}, Defaults: []string{}},
		{Edges: []api.Edge{made("a")}}, {Defaults: []string{"none"}}, {Pools: []api.Pool{{Name: "p", Depth: 8}}},
		{Edges: []api.Edge{{Outs: []string{"a"}, Ins: []string{"a", "a"}, Implicit: []string{"a"}, Order: []string{"a"}, Command: " "}}},
		full(),
	} {
		wantAll(t, g, "x", -1, api.OK)
	}
}

func TestMaker(t *testing.T) {
	g := full()
	for i, e := range g.Edges {
		for _, out := range e.Outs {
			wantAll(t, g, out, i, api.OK)
		}
	}
	for _, name := range []string{"", "in", "f", "f128", "f00", "F0", "./f0", "f0/", "f0 ", "p0", strings.Repeat("~", api.MaxEval), "\xff", strings.Repeat("f", 1<<20)} {
		wantAll(t, g, name, -1, api.OK)
	}
	two := api.Graph{Edges: []api.Edge{made("ab", "b"), made("a"), made("a/b")}}
	for name, at := range map[string]int{"ab": 0, "b": 0, "a": 1, "a/b": 2, "a/": -1, "/b": -1} {
		wantAll(t, two, name, at, api.OK)
	}
	wantAll(t, api.Graph{}, "a", -1, api.OK)
}

// What an edge takes is made by no one for that.
func TestOnlyOutsAreMade(t *testing.T) {
	g := api.Graph{Edges: []api.Edge{{Outs: []string{"a"}, Ins: []string{"b"}, Implicit: []string{"c"}, Order: []string{"d"}, Command: "e"}, made("f")}, Pools: []api.Pool{{Name: "g", Depth: 1}}, Defaults: []string{"h"}}
	for _, name := range []string{"b", "c", "d", "e", "g", "h"} {
		wantAll(t, g, name, -1, api.OK)
	}
	wantAll(t, g, "a", 0, api.OK)
	wantAll(t, g, "f", 1, api.OK)
}

// One output is put over another one, in the same edge or not, first or last.
func TestTwice(t *testing.T) {
	const all = api.MaxEdges * api.MaxList
	g := full()
	for i := range all {
		place := &g.Edges[i/api.MaxList].Outs[i%api.MaxList]
		own := *place
		for j := range i {
			name := g.Edges[j/api.MaxList].Outs[j%api.MaxList]
			*place = name
			if e := Check(g); e != api.ErrGraphTwice {
				t.Fatalf("P9.1: Check with outputs %d and %d the same: %d", j, i, e)
			}
			if at, is, e := Maker(g, name); at != 0 || is || e != api.ErrGraphTwice {
				t.Fatalf("P9.1: Maker with outputs %d and %d the same: %d, %v, %d", j, i, at, is, e)
			}
		}
		*place = own
	}
	for _, g := range []api.Graph{
		{Edges: []api.Edge{made("a", "a")}}, {Edges: []api.Edge{made("a"), made("a")}}, {Edges: []api.Edge{made("a", "b", "a")}},
		{Edges: []api.Edge{made("a"), made("b"), made("c", "a")}}, {Edges: []api.Edge{made("b", "b"), made("a")}},
		{Edges: slices.Repeat([]api.Edge{made("a", "b")}, api.MaxEdges)},
	} {
		for _, name := range []string{"a", "b", "none", "", "no path!"} {
			wantAll(t, g, name, -1, api.ErrGraphTwice)
		}
	}
}

func TestPools(t *testing.T) {
	for depth := -20; depth < 20; depth++ {
		g := api.Graph{Pools: []api.Pool{{Name: "q", Depth: 1}, {Name: "p", Depth: depth}}}
		if 1 <= depth && depth <= api.MaxDepth {
			wantAll(t, g, "a", -1, api.OK)
		} else {
			wantForm(t, g)
		}
	}
	for _, depth := range []int{-1 << 63, 1<<63 - 1, 1 << 32, 1<<32 + 1, -1<<32 + 1} {
		wantForm(t, api.Graph{Pools: []api.Pool{{Name: "p", Depth: depth}}})
	}
	for _, name := range []string{"", "P", " p", "p ", "p\n", "\x80", strings.Repeat("p", api.MaxName+1)} {
		for i := range api.MaxPools {
			g := full()
			g.Edges = nil
			g.Pools[i].Name = name
			wantForm(t, g)
		}
	}
	for i := range api.MaxPools {
		for j := range i {
			g := full()
			g.Edges = nil
			g.Pools[i].Name = g.Pools[j].Name
			wantForm(t, g)
		}
	}
	for _, name := range []string{"/", "a/", "..", strings.Repeat("p", api.MaxName)} {
		wantAll(t, api.Graph{Pools: []api.Pool{{Name: name, Depth: 1}}}, name, -1, api.OK)
	}
}

// An edge's pool is one of the graph's, at whichever place the edge stands.
func TestPoolsOfEdges(t *testing.T) {
	for i := range api.MaxEdges {
		for _, name := range []string{"p", "p4", "P0", "p0 ", "f0"} {
			g := full()
			g.Edges[i].Pool = name
			wantForm(t, g)
		}
		g := full()
		g.Edges[i].Pool = ""
		wantAll(t, g, "f127", 15, api.OK)
	}
	for i := range api.MaxPools {
		g := full()
		g.Pools = slices.Delete(g.Pools, i, i+1)
		wantForm(t, g)
	}
	wantForm(t, api.Graph{Edges: []api.Edge{{Outs: []string{"a"}, Command: "c", Pool: "p"}}})
}

func TestTooMany(t *testing.T) {
	for n := range 3 * api.MaxEdges {
		var g api.Graph
		for i := range n {
			g.Edges = append(g.Edges, made("f"+strconv.Itoa(i)))
		}
		wantBound(t, g, n, api.MaxEdges)
	}
	for n := range 3 * api.MaxPools {
		var g api.Graph
		for i := range n {
			g.Pools = append(g.Pools, api.Pool{Name: "p" + strconv.Itoa(i), Depth: 1})
		}
		wantBound(t, g, n, api.MaxPools)
	}
	for n := range 3 * api.MaxList {
		wantBound(t, api.Graph{Defaults: slices.Repeat([]string{"a"}, n)}, n, api.MaxList)
	}
	wantForm(t, api.Graph{Edges: slices.Repeat([]api.Edge{made("a")}, api.MaxEdges+1)})
	for _, g := range []api.Graph{{Edges: make([]api.Edge, 1<<20)}, {Pools: make([]api.Pool, 1<<20)}, {Defaults: make([]string, 1<<20)}} {
		if May(g) || Check(g) != api.ErrGraphForm {
			t.Error("P9.1: a graph of a great many")
		}
	}
}

func wantBound(t *testing.T, g api.Graph, n, most int) {
	t.Helper()
	if n > most {
		wantForm(t, g)
	} else {
		wantAll(t, g, "x", -1, api.OK)
	}
}

func TestWrongPaths(t *testing.T) {
	for _, wrong := range []string{"", "/a", "a/", "a//b", "./a", "a/..", "a/../b", "..", ".", "A", "a b", "a\n", "\xff", strings.Repeat("a", api.MaxName+1)} {
		for i := range api.MaxList {
			g := full()
			g.Defaults[i] = wrong
			wantForm(t, g)
			for k := range api.MaxEdges {
				g := full()
				list := []*[]string{&g.Edges[k].Outs, &g.Edges[k].Ins, &g.Edges[k].Implicit, &g.Edges[k].Order}[(i+k)%4]
				(*list)[i] = wrong
				wantForm(t, g)
			}
		}
	}
}

// An edge that may not be is seen at whichever place it stands.
func TestWrongEdges(t *testing.T) {
	nine := slices.Repeat([]string{"x"}, api.MaxList+1)
	for _, e := range []api.Edge{
		{}, {Outs: []string{"a"}}, {Command: "c"}, {Outs: []string{}, Command: "c"},
		{Outs: nine, Command: "c"}, {Outs: []string{"a"}, Ins: nine, Command: "c"}, {Outs: []string{"a"}, Implicit: nine, Command: "c"}, {Outs: []string{"a"}, Order: nine, Command: "c"},
		{Outs: []string{"a"}, Command: "\t"}, {Outs: []string{"a"}, Command: "\x7f"}, {Outs: []string{"a"}, Command: strings.Repeat("c", api.MaxEval+1)},
		{Outs: []string{"a"}, Command: "c", Pool: "P"},
	} {
		for i := range api.MaxEdges {
			g := full()
			g.Edges[i] = e
			wantForm(t, g)
		}
	}
}

// A graph that may not be is told ahead of an output that stands twice.
func TestFormAheadOfTwice(t *testing.T) {
	g := api.Graph{Edges: []api.Edge{made("a"), made("a"), made("A")}}
	wantForm(t, g)
	g = api.Graph{Edges: []api.Edge{made("a", "a")}, Defaults: []string{""}}
	wantForm(t, g)
	g = api.Graph{Edges: []api.Edge{made("a", "a")}, Pools: []api.Pool{{Name: "p"}}}
	wantForm(t, g)
}

// spare is a graph all of whose lists have spare room, with something in it.
func spare() api.Graph {
	g := full()
	g.Edges = append(g.Edges, made("spare"))[:api.MaxEdges]
	for i := range g.Edges {
		g.Edges[i].Outs = append([]string{"z", "y", "x"}, "spare")[:3-i%3]
	}
	g.Pools = append(g.Pools, api.Pool{Name: "spare"})[:api.MaxPools]
	g.Defaults = append(g.Defaults, "spare")[:api.MaxList]
	return g
}

// grown is the graph with its spare room.
func grown(g api.Graph) api.Graph {
	var edges []api.Edge
	for _, e := range g.Edges[:cap(g.Edges)] {
		e.Outs = e.Outs[:cap(e.Outs)]
		edges = append(edges, e)
	}
	return api.Graph{Edges: edges, Pools: g.Pools[:cap(g.Pools)], Defaults: g.Defaults[:cap(g.Defaults)]}
}

func TestArgumentStays(t *testing.T) {
	for _, same := range []bool{false, true} {
		g, twin := spare(), spare()
		if !same {
			g.Edges, twin.Edges = g.Edges[:1], twin.Edges[:1]
		}
		want := api.OK
		if same {
			want = api.ErrGraphTwice
		}
		for range 2 {
			if e := Check(g); e != want || !May(g) {
				t.Fatalf("P9.1: Check(%v): %d; want %d", g, e, want)
			}
			Maker(g, "x")
			Maker(g, "none")
		}
		if !reflect.DeepEqual(grown(g), grown(twin)) {
			t.Error("R4: what was handed in was changed")
		}
	}
}

func TestFromSeveralGoroutines(t *testing.T) {
	g, bad := full(), full()
	bad.Edges[3].Outs[3] = "f0"
	var all sync.WaitGroup
	for range 8 {
		all.Go(func() {
			for range 50 {
				wantAll(t, g, "f127", 15, api.OK)
				wantAll(t, bad, "f127", -1, api.ErrGraphTwice)
			}
		})
	}
	all.Wait()
}
