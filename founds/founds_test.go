package founds

import (
	"slices"
	"strings"
	"testing"

	"crucible/api"
)

// found is one that may be.
func found() api.Found {
	return api.Found{Out: "a/b.o", Time: 7, Ins: []string{"b.h", "c/d.h"}}
}

func want(t *testing.T, f api.Found, want bool) {
	t.Helper()
	if May(f) != want {
		t.Errorf("P15.1: %.100v: not %v", f, want)
	}
}

// wrong are texts that are no paths.
func wrong() []string {
	return []string{"", "/a", "a/", "a//b", "./a", "a/..", "..", ".", "/", "A", "a b", " ", "a\n", "\x00", "\xff", strings.Repeat("a", api.MaxName+1), strings.Repeat("a", 1<<20)}
}

func TestOuts(t *testing.T) {
	for _, out := range []string{"a", "0", "a/b", "..a", "...", "-", "_", strings.Repeat("a", api.MaxName)} {
		f := found()
		f.Out = out
		want(t, f, true)
	}
	for _, out := range wrong() {
		f := found()
		f.Out = out
		want(t, f, false)
	}
}

func TestTimes(t *testing.T) {
	for _, time := range []int{1, 2, 10, api.MaxTime - 1, api.MaxTime} {
		f := found()
		f.Time = time
		want(t, f, true)
	}
	for _, time := range []int{0, -1, api.MaxTime + 1, 1 << 32, 1<<32 + 1, 1<<63 - 1, -1 << 63} {
		f := found()
		f.Time = time
		want(t, f, false)
	}
}

func TestIns(t *testing.T) {
	for n := range 3 * api.MaxList {
		f := found()
		f.Ins = slices.Repeat([]string{"x.h"}, n)
		want(t, f, n <= api.MaxList)
		for i := range f.Ins {
			for _, in := range wrong() {
				f.Ins[i] = in
				want(t, f, false)
			}
			f.Ins[i] = "x.h"
		}
	}
	want(t, api.Found{Out: "a", Time: 1}, true)
	want(t, api.Found{Out: "a", Time: 1, Ins: []string{}}, true)
	want(t, api.Found{Out: "a", Time: 1, Ins: []string{"a", "a"}}, true)
	want(t, api.Found{Out: "a", Time: 1, Ins: make([]string, 1<<24)}, false)
	want(t, api.Found{}, false)
}
