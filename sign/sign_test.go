package sign

import (
	"reflect"
	"slices"
	"strings"
	"sync"
	"testing"
	"unsafe"

	"crucible/api"
)

func want(t *testing.T, e api.Edge, sign string, want api.Errno) {
	t.Helper()
	if got, f := Of(e); got != sign || f != want {
		t.Errorf("P11.1: %v: %q, %d; want %q, %d", e, got, f, sign, want)
	}
}

func wantForm(t *testing.T, e api.Edge) {
	t.Helper()
	want(t, e, "", api.ErrSignForm)
}

// edge is one that may be, with something in each field.
func edge() api.Edge {
	return api.Edge{Outs: []string{"a", "b/c"}, Ins: []string{"d", "e"}, Implicit: []string{"f", "g"}, Order: []string{"h", "i"}, Command: "cc d | e", Deps: true, Pool: "p"}
}

// full is the greatest edge there is.
func full() api.Edge {
	list := func(b string) []string {
		return slices.Repeat([]string{strings.Repeat(b, api.MaxName)}, api.MaxList)
	}
	return api.Edge{Outs: list("a"), Ins: list("b"), Implicit: list("c"), Order: list("d"), Command: strings.Repeat("~", api.MaxEval), Pool: strings.Repeat("p", api.MaxName)}
}

// listsOf are an edge's lists, in their places.
func listsOf(e *api.Edge) []*[]string {
	return []*[]string{&e.Outs, &e.Ins, &e.Implicit, &e.Order}
}

func TestSigns(t *testing.T) {
	want(t, edge(), "a b/c|d e|f g|d|cc d | e", api.OK)
	want(t, api.Edge{Outs: []string{"a"}, Command: "c"}, "a|||n|c", api.OK)
	want(t, api.Edge{Outs: []string{"a"}, Ins: []string{}, Implicit: []string{}, Order: []string{}, Command: "c"}, "a|||n|c", api.OK)
	want(t, api.Edge{Outs: []string{"a"}, Ins: []string{"b"}, Command: "c"}, "a|b||n|c", api.OK)
	want(t, api.Edge{Outs: []string{"a"}, Implicit: []string{"b"}, Command: "c"}, "a||b|n|c", api.OK)
	want(t, api.Edge{Outs: []string{"a"}, Order: []string{"b"}, Command: "c", Deps: true}, "a|||d|c", api.OK)
	want(t, api.Edge{Outs: []string{"a", "a"}, Ins: []string{"a", "a"}, Implicit: []string{"a", "a"}, Command: "c"}, "a a|a a|a a|n|c", api.OK)
	want(t, api.Edge{Outs: []string{"c", "a", "b"}, Ins: []string{"z", "x", "y"}, Command: "c"}, "c a b|z x y||n|c", api.OK)
	for _, command := range []string{" ", "  ", "|", "||n|c", " c ", "\"$x\" \\", "d"} {
		want(t, api.Edge{Outs: []string{"a"}, Command: command}, "a|||n|"+command, api.OK)
	}
}

func TestGreatestEdge(t *testing.T) {
	list := func(b string) string {
		s := strings.Repeat(b, api.MaxName)
		return strings.Repeat(s+" ", api.MaxList-1) + s
	}
	want(t, full(), list("a")+"|"+list("b")+"|"+list("c")+"|n|"+strings.Repeat("~", api.MaxEval), api.OK)
}

// Each list, from the shortest to the longest, is told with one blank between each two.
func TestLengthsOfLists(t *testing.T) {
	names := []string{"a", "b.o", "c/d", "-", "_", "...", "0", "z/y/x"}
	texts := []string{"", "a", "a b.o", "a b.o c/d", "a b.o c/d -", "a b.o c/d - _", "a b.o c/d - _ ...", "a b.o c/d - _ ... 0", "a b.o c/d - _ ... 0 z/y/x"}
	for n, text := range texts {
		if n > 0 {
			want(t, api.Edge{Outs: names[:n], Command: "c"}, text+"|||n|c", api.OK)
		}
		want(t, api.Edge{Outs: []string{"o"}, Ins: names[:n], Command: "c"}, "o|"+text+"||n|c", api.OK)
		want(t, api.Edge{Outs: []string{"o"}, Implicit: names[:n], Command: "c"}, "o||"+text+"|n|c", api.OK)
		want(t, api.Edge{Outs: []string{"o"}, Order: names[:n], Command: "c"}, "o|||n|c", api.OK)
	}
}

// What comes ahead only, and the pool, are no part of what an edge is made by.
func TestOrderAndPoolAreNotTold(t *testing.T) {
	for _, order := range [][]string{nil, {}, {"a"}, {"h", "i", "j"}, full().Order} {
		for _, pool := range []string{"", "p", "q/r", full().Pool} {
			e := edge()
			e.Order, e.Pool = order, pool
			want(t, e, "a b/c|d e|f g|d|cc d | e", api.OK)
		}
	}
}

// lists are the lists of at most so many of the names, each name at any place, once and again.
func lists(names []string, most int) [][]string {
	all := [][]string{{}}
	for at := 0; at < len(all); at++ {
		if len(all[at]) < most {
			for _, name := range names {
				all = append(all, append(slices.Clone(all[at]), name))
			}
		}
	}
	return all
}

// Edges that differ in what is told have different signs, though the commands try to look like what stands ahead of them.
func TestOneSignTellsOneEdge(t *testing.T) {
	seen := map[string]api.Edge{}
	few := lists([]string{"a", "n", "d"}, 2)
	for _, outs := range few[1:] {
		for _, ins := range few {
			for _, implicit := range few {
				for _, command := range []string{"n", "d", "a", "n|n", "|n|n", "||n|n", "d|n", " a", "a a"} {
					for _, deps := range []bool{false, true} {
						e := api.Edge{Outs: outs, Ins: ins, Implicit: implicit, Command: command, Deps: deps}
						sign, f := Of(e)
						if other, is := seen[sign]; is || f != api.OK {
							t.Fatalf("P11.1: %v, %v: %q, %d", e, other, sign, f)
						}
						seen[sign] = e
					}
				}
			}
		}
	}
}

func TestWrongPaths(t *testing.T) {
	for _, wrong := range []string{"", "/a", "a/", "a//b", "./a", "a/..", "a/../b", "..", ".", "A", "a b", "a|b", "a\n", "\xff", strings.Repeat("a", api.MaxName+1)} {
		for k := range 4 {
			for i := range api.MaxList {
				e := full()
				(*listsOf(&e)[k])[i] = wrong
				wantForm(t, e)
			}
		}
	}
}

func TestWrongNumbersOfNames(t *testing.T) {
	wantForm(t, api.Edge{})
	wantForm(t, api.Edge{Command: "c"})
	wantForm(t, api.Edge{Outs: []string{}, Ins: []string{"a"}, Command: "c"})
	for _, n := range []int{api.MaxList + 1, 2 * api.MaxList, 1 << 20} {
		names := slices.Repeat([]string{"a"}, n)
		wantForm(t, api.Edge{Outs: names, Command: "c"})
		wantForm(t, api.Edge{Outs: []string{"a"}, Ins: names, Command: "c"})
		wantForm(t, api.Edge{Outs: []string{"a"}, Implicit: names, Command: "c"})
		wantForm(t, api.Edge{Outs: []string{"a"}, Order: names, Command: "c"})
	}
}

func TestWrongCommandsAndPools(t *testing.T) {
	e := edge()
	for n := range 2 * api.MaxEval {
		e.Command = strings.Repeat("c", n)
		if 1 <= n && n <= api.MaxEval {
			want(t, e, "a b/c|d e|f g|d|"+e.Command, api.OK)
		} else {
			wantForm(t, e)
		}
	}
	for b := range 256 {
		for _, command := range []string{string([]byte{byte(b)}), "c" + string([]byte{byte(b)}), string([]byte{byte(b)}) + "c"} {
			e.Command = command
			if 32 <= b && b <= 126 {
				want(t, e, "a b/c|d e|f g|d|"+command, api.OK)
			} else {
				wantForm(t, e)
			}
		}
	}
	for _, pool := range []string{"P", " ", "p ", "p\n", "\x80", strings.Repeat("p", api.MaxName+1), strings.Repeat("p", 1<<20)} {
		e := edge()
		e.Pool = pool
		wantForm(t, e)
	}
}

// spare is an edge all of whose lists have spare room, with something in it.
func spare() api.Edge {
	e := edge()
	for _, list := range listsOf(&e) {
		*list = append(*list, "spare", "spare")[:len(*list)]
	}
	return e
}

// grown is the edge with its spare room.
func grown(e api.Edge) api.Edge {
	for _, list := range listsOf(&e) {
		*list = (*list)[:cap(*list)]
	}
	return e
}

func TestArgumentStays(t *testing.T) {
	e := spare()
	for range 2 {
		want(t, e, "a b/c|d e|f g|d|cc d | e", api.OK)
	}
	if !reflect.DeepEqual(grown(e), grown(spare())) {
		t.Error("R4: what was handed in was changed")
	}
}

// within: does the part lie in the memory of all?
func within(all, part string) bool {
	first, at := uintptr(unsafe.Pointer(unsafe.StringData(all))), uintptr(unsafe.Pointer(unsafe.StringData(part)))
	return first <= at && at < first+uintptr(len(all))
}

func TestAnswerIsNewMemory(t *testing.T) {
	// All of the edge's texts are parts of one that a sign could be a part of, too.
	all := strings.Clone("a|||n|c")
	e := api.Edge{Outs: []string{all[:1]}, Command: all[6:]}
	one, _ := Of(e)
	two, _ := Of(e)
	if one != all || within(all, one) || within(one, two) {
		t.Errorf("R4: %q, %q: an answer shares memory", one, two)
	}
}

func TestFromSeveralGoroutines(t *testing.T) {
	e, wrong := edge(), edge()
	wrong.Order[1] = "h/"
	var all sync.WaitGroup
	for range 8 {
		all.Go(func() {
			for range 50 {
				want(t, e, "a b/c|d e|f g|d|cc d | e", api.OK)
				wantForm(t, wrong)
			}
		})
	}
	all.Wait()
}
