package scope

import (
	"slices"
	"strconv"
	"strings"
	"sync"
	"testing"
	"unsafe"

	"crucible/api"
)

func bind(name, text string) api.Bind { return api.Bind{Name: name, Text: text} }

// numbered is a scope of so many binds, v0 on.
func numbered(n int) []api.Bind {
	var bs []api.Bind
	for i := range n {
		bs = append(bs, bind("v"+strconv.Itoa(i), "text "+strconv.Itoa(i)))
	}
	return bs
}

func wantSet(t *testing.T, bs []api.Bind, name, text string, want ...api.Bind) {
	t.Helper()
	if got, e := Set(bs, name, text); !slices.Equal(got, want) || e != api.OK {
		t.Errorf("P4.1: Set(%v, %q, %q): %v, %d; want %v", bs, name, text, got, e, want)
	}
}

func wantRefused(t *testing.T, bs []api.Bind, name, text string, want api.Errno) {
	t.Helper()
	if got, e := Set(bs, name, text); len(got) != 0 || e != want {
		t.Errorf("P4.1: Set(%v, %q, %q): %v, %d; want error %d", bs, name, text, got, e, want)
	}
}

// wrongBinds are binds that stand in no scope.
func wrongBinds() []api.Bind {
	return []api.Bind{
		{}, bind("", "a"), bind("A", ""), bind("a b", ""), bind(" a", ""), bind("a:", ""), bind("$a", ""), bind("a\n", ""), bind("é", ""), bind("\xff", ""),
		bind(strings.Repeat("a", api.MaxName+1), ""), bind(strings.Repeat("a", 256+1), ""),
		bind("a", "\n"), bind("a", "b\n"), bind("a", "\t"), bind("a", "\x00"), bind("a", "\x1f"), bind("a", "\x7f"), bind("a", "\x80"), bind("a", "é"), bind("a", "b\xff"),
		bind("a", strings.Repeat("x", api.MaxEval+1)), bind("a", strings.Repeat("x", api.MaxText)), bind("a", strings.Repeat("x", 1<<16)),
	}
}

func TestScopesThatMayBe(t *testing.T) {
	for _, bs := range [][]api.Bind{
		nil, {}, {bind("a", "")}, {bind("a", "x"), bind("b", "x")}, {bind("b", ""), bind("a", "")},
		{bind("a.b", " "), bind("a-b", "~"), bind("a/b", "$x = ${y}"), bind("a_b", ":|#"), bind("/", "A")},
		{bind(strings.Repeat("a", api.MaxName), strings.Repeat("x", api.MaxEval))},
		{bind("a", ""), bind("aa", ""), bind("aaa", "")},
	} {
		if !May(bs) {
			t.Errorf("P4.1: %v may be", bs)
		}
	}
	for n := range 3 * api.MaxVars {
		if want := n <= api.MaxVars; May(numbered(n)) != want {
			t.Errorf("P4.1: May of %d binds: not %v", n, want)
		}
	}
}

// A bind that may not be is seen at whichever place it stands, and by each call.
func TestScopesThatMayNotBe(t *testing.T) {
	for _, b := range wrongBinds() {
		for i := range 4 {
			bs := slices.Insert(numbered(3), i, b)
			if May(bs) {
				t.Errorf("P4.1: %v may not be", bs)
			}
			wantRefused(t, bs, "v0", "", api.ErrScopeForm)
			wantRefused(t, bs, "new", "", api.ErrScopeForm)
			for _, name := range []string{"v0", "v2", b.Name} {
				if got := Get(bs, name); got != "" {
					t.Errorf("P4.1: Get(%v, %q): %q of a scope that may not be", bs, name, got)
				}
			}
		}
	}
}

func TestTwoOfOneName(t *testing.T) {
	for i := range api.MaxVars {
		for j := range i {
			bs := numbered(api.MaxVars)
			bs[i].Name = bs[j].Name
			if May(bs) || Get(bs, bs[i].Name) != "" {
				t.Errorf("P4.1: binds %d and %d have one name", j, i)
			}
			wantRefused(t, bs, bs[i].Name, "", api.ErrScopeForm)
			wantRefused(t, bs, "new", "", api.ErrScopeForm)
			same := []api.Bind{bs[j], bs[j]}
			if May(same) {
				t.Errorf("P4.1: %v: the same bind twice", same)
			}
		}
	}
}

func TestSetOfOneThatIsThere(t *testing.T) {
	for n := 1; n <= api.MaxVars; n++ {
		for i := range n {
			bs := numbered(n)
			for _, text := range []string{"", "z", bs[i].Text, strings.Repeat("~", api.MaxEval)} {
				want := numbered(n)
				want[i].Text = text
				wantSet(t, bs, bs[i].Name, text, want...)
			}
		}
	}
}

func TestSetOfOneMore(t *testing.T) {
	wantSet(t, nil, "a", "", bind("a", ""))
	wantSet(t, []api.Bind{bind("b", "x")}, "a", "y", bind("b", "x"), bind("a", "y"))
	wantSet(t, []api.Bind{bind("ab", "x")}, "a", "", bind("ab", "x"), bind("a", ""))
	for n := range api.MaxVars {
		for _, text := range []string{"", " ", "$in", strings.Repeat("~", api.MaxEval)} {
			wantSet(t, numbered(n), "new", text, append(numbered(n), bind("new", text))...)
		}
	}
	wantRefused(t, numbered(api.MaxVars), "new", "", api.ErrScopeFull)
	wantRefused(t, numbered(api.MaxVars), "new", "x", api.ErrScopeFull)
}

// What is wrong in the bind is told ahead of a scope that is full.
func TestSetOfWhatMayNotBe(t *testing.T) {
	for _, b := range wrongBinds() {
		for _, n := range []int{0, 1, 3, api.MaxVars - 1, api.MaxVars, api.MaxVars + 1} {
			wantRefused(t, numbered(n), b.Name, b.Text, api.ErrScopeForm)
		}
		wantRefused(t, []api.Bind{bind("a", "")}, b.Name, b.Text, api.ErrScopeForm)
	}
	wantRefused(t, numbered(api.MaxVars+1), "v0", "", api.ErrScopeForm)
	wantRefused(t, numbered(api.MaxVars+1), "new", "", api.ErrScopeForm)
}

func TestEachByteOfText(t *testing.T) {
	for b := range 256 {
		text := "a" + string([]byte{byte(b)}) + "a"
		want := 32 <= b && b <= 126
		if May([]api.Bind{bind("x", text)}) != want {
			t.Errorf("P4.1: byte %d of a text: not %v", b, want)
		}
		if want {
			wantSet(t, nil, "x", text, bind("x", text))
		} else {
			wantRefused(t, nil, "x", text, api.ErrScopeForm)
		}
	}
}

func TestGet(t *testing.T) {
	bs := numbered(api.MaxVars)
	bs[3].Text = ""
	for i, b := range bs {
		if got := Get(bs, b.Name); got != bs[i].Text {
			t.Errorf("P4.1: Get of %q: %q; want %q", b.Name, got, b.Text)
		}
	}
	for _, name := range []string{"", "v", "v16", "v01", "V0", "text 0", "a b", "\xff", strings.Repeat("v", 1<<16)} {
		if got := Get(bs, name); got != "" {
			t.Errorf("P4.1: Get of %q: %q; there is none", name, got)
		}
	}
	if Get(nil, "a") != "" || Get(numbered(api.MaxVars+1), "v0") != "" {
		t.Error("P4.1: Get of no scope, or of one that may not be, is empty")
	}
}

// Set again and again is as one that is asked for the last text of each name.
func TestManySets(t *testing.T) {
	var bs []api.Bind
	last := map[string]string{}
	var names []string
	for i := range 1000 {
		name, text := "v"+strconv.Itoa(i*i%23), strconv.Itoa(i)
		if _, ok := last[name]; !ok {
			names = append(names, name)
		}
		last[name] = text
		got, e := Set(bs, name, text)
		if e != api.OK {
			t.Fatalf("P4.1: Set(%v, %q): %d", bs, name, e)
		}
		bs = got
		for at, b := range bs {
			if b.Name != names[at] || b.Text != last[b.Name] || Get(bs, b.Name) != b.Text {
				t.Fatalf("P4.1: behind %d sets: %v; want the names %v", i+1, bs, names)
			}
		}
	}
}

// ofOneArray are binds all of whose texts lie in one text, in a list with spare room.
func ofOneArray() (string, []api.Bind) {
	all := "nameAtext more"
	bs := make([]api.Bind, 2, 8)
	bs[0], bs[1] = bind(all[0:4], all[5:9]), bind(all[10:14], all[0:9])
	return all, bs
}

func within(part, all string) bool {
	first, at := uintptr(unsafe.Pointer(unsafe.StringData(all))), uintptr(unsafe.Pointer(unsafe.StringData(part)))
	return len(part) > 0 && first <= at && at < first+uintptr(len(all))
}

func TestAnswerIsNewMemory(t *testing.T) {
	all, bs := ofOneArray()
	spare, old := bs[:cap(bs)], slices.Clone(bs)
	for _, name := range []string{all[0:4], all[10:14], all[1:4]} {
		got, e := Set(bs, name, all[5:])
		again, f := Set(bs, name, all[5:])
		if e != api.OK || f != api.OK {
			t.Fatalf("P4.1: %v: %d, %d", bs, e, f)
		}
		want := slices.Clone(again)
		for i, b := range got {
			if within(b.Name, all) || within(b.Text, all) {
				t.Errorf("R4: %v is a part of what was handed in", b)
			}
			got[i] = bind("turned", "turned")
		}
		_ = append(got, bind("one", "more"))
		if !slices.Equal(again, want) || !slices.Equal(bs, old) {
			t.Error("R4: an answer shares memory")
		}
		if text := Get(bs, name); within(text, all) {
			t.Errorf("R4: %q is a part of what was handed in", text)
		}
	}
	for _, b := range spare[len(bs):] {
		if b != (api.Bind{}) {
			t.Errorf("R4: the spare room has %v", b)
		}
	}
}

func TestFromSeveralGoroutines(t *testing.T) {
	bs := numbered(4)
	var all sync.WaitGroup
	for range 8 {
		all.Go(func() {
			for range 200 {
				wantSet(t, bs, "new", "x", append(numbered(4), bind("new", "x"))...)
				wantRefused(t, bs, "New", "x", api.ErrScopeForm)
				if Get(bs, "v2") != "text 2" {
					t.Error("P4.1: Get of v2")
				}
			}
		})
	}
	all.Wait()
}
