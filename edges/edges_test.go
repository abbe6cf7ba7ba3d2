package edges

import (
	"slices"
	"strings"
	"testing"

	"crucible/api"
)

// edge is one that may be.
func edge() api.Edge {
	return api.Edge{Outs: []string{"a"}, Ins: []string{"b"}, Implicit: []string{"c"}, Order: []string{"d"}, Command: "cc"}
}

// lists are an edge's lists, in their places.
func lists(e *api.Edge) []*[]string {
	return []*[]string{&e.Outs, &e.Ins, &e.Implicit, &e.Order}
}

func want(t *testing.T, e api.Edge, want bool) {
	t.Helper()
	if May(e) != want {
		t.Errorf("P9.1: %v: not %v", e, want)
	}
}

func TestLists(t *testing.T) {
	for k := range 4 {
		for n := range 3 * api.MaxList {
			e := edge()
			*lists(&e)[k] = slices.Repeat([]string{"x/y"}, n)
			want(t, e, n <= api.MaxList && (k > 0 || n > 0))
		}
		for i := range api.MaxList {
			for _, wrong := range []string{"", "/a", "a/", "a//b", "./a", "a/..", "..", ".", "A", "a b", "a\n", "\xff", strings.Repeat("a", api.MaxName+1)} {
				e := edge()
				*lists(&e)[k] = slices.Repeat([]string{"x/y"}, api.MaxList)
				(*lists(&e)[k])[i] = wrong
				want(t, e, false)
			}
		}
	}
	want(t, api.Edge{Outs: []string{"a"}, Command: "c"}, true)
	want(t, api.Edge{Outs: []string{"a"}, Ins: []string{}, Command: "c"}, true)
	want(t, api.Edge{Outs: []string{"a", "a"}, Ins: []string{"a"}, Command: "c"}, true)
	want(t, api.Edge{Outs: []string{}, Command: "c"}, false)
	want(t, api.Edge{}, false)
}

func TestCommands(t *testing.T) {
	for n := range 2 * api.MaxEval {
		e := edge()
		e.Command = strings.Repeat("~", n)
		want(t, e, 1 <= n && n <= api.MaxEval)
	}
	for b := range 256 {
		for _, s := range []string{string([]byte{byte(b)}), "c" + string([]byte{byte(b)}), string([]byte{byte(b)}) + "c"} {
			e := edge()
			e.Command = s
			want(t, e, 32 <= b && b <= 126)
		}
	}
}

func TestPoolsAndDeps(t *testing.T) {
	for _, pool := range []string{"", "p", "/", "a/../b", strings.Repeat("p", api.MaxName)} {
		for _, deps := range []bool{false, true} {
			e := edge()
			e.Pool, e.Deps = pool, deps
			want(t, e, true)
		}
	}
	for _, pool := range []string{"P", " ", "p ", "p\n", "\x00", strings.Repeat("p", api.MaxName+1), strings.Repeat("p", 1<<16)} {
		e := edge()
		e.Pool = pool
		want(t, e, false)
	}
}

func wantNeeds(t *testing.T, es []api.Edge, want ...[]int) {
	t.Helper()
	if got := Needs(es); !slices.EqualFunc(got, want, slices.Equal[[]int]) {
		t.Errorf("P10.1: %v: %v; want %v", es, got, want)
	}
}

func TestNeeds(t *testing.T) {
	wantNeeds(t, nil)
	wantNeeds(t, []api.Edge{edge()}, nil)
	a, b, c := api.Edge{Outs: []string{"a", "b"}}, api.Edge{Outs: []string{"c"}}, api.Edge{Outs: []string{"d"}}
	wantNeeds(t, []api.Edge{a, b, c}, nil, nil, nil)
	for k := 1; k < 4; k++ {
		b := b
		*lists(&b)[k] = []string{"x", "b"}
		wantNeeds(t, []api.Edge{a, b, c}, nil, []int{0}, nil)
		wantNeeds(t, []api.Edge{b, c, a}, []int{2}, nil, nil)
		*lists(&b)[k] = []string{"d", "c", "b", "a", "d"}
		wantNeeds(t, []api.Edge{a, b, c}, nil, []int{0, 1, 2}, nil)
	}
	c.Ins, c.Implicit, c.Order = []string{"c"}, []string{"a", "c"}, []string{"b", "a/b", "ab"}
	wantNeeds(t, []api.Edge{c, a, b}, []int{1, 2}, nil, nil)
}
