package paths

import (
	"regexp"
	"slices"
	"strings"
	"testing"

	"crucible/api"
)

// A path's pieces are not empty, neither `.` nor `..`; they are told here by a pattern of their own.
var (
	whole = regexp.MustCompile(`^[a-z0-9._-]+(/[a-z0-9._-]+)*$`)
	dots  = regexp.MustCompile(`(^|/)\.\.?(/|$)`)
)

func isPath(s string) bool {
	return len(s) <= api.MaxName && whole.MatchString(s) && !dots.MatchString(s) && !strings.Contains(s, "\n")
}

func TestShortTexts(t *testing.T) {
	texts := []string{""}
	for at := 0; at < len(texts) && len(texts[at]) < 7; at++ {
		for _, b := range []string{"a", ".", "/", "A"} {
			texts = append(texts, texts[at]+b)
		}
	}
	for _, s := range texts {
		if want := isPath(s); May(s) != want {
			t.Errorf("%q: not %v", s, want)
		}
	}
}

func TestEachByte(t *testing.T) {
	for b := range 256 {
		for _, s := range []string{string([]byte{byte(b)}), "a" + string([]byte{byte(b)}), "a" + string([]byte{byte(b)}) + "a"} {
			if want := isPath(s); May(s) != want {
				t.Errorf("%q: not %v", s, want)
			}
		}
	}
}

func TestLengths(t *testing.T) {
	for n := range 4 * api.MaxName {
		if want := 1 <= n && n <= api.MaxName; May(strings.Repeat("a", n)) != want {
			t.Errorf("%d bytes: not %v", n, want)
		}
	}
	if May(strings.Repeat("a", 1<<24)) || May("./"+strings.Repeat("a", api.MaxName)) {
		t.Error("a longer text is no path")
	}
}

func TestLists(t *testing.T) {
	for n := range 3 * api.MaxList {
		list := slices.Repeat([]string{"a/b"}, n)
		if want := n <= api.MaxList; List(list) != want {
			t.Errorf("a list of %d: not %v", n, want)
		}
		for i := range list {
			for _, wrong := range []string{"", "/a", "a/", "./a", "a/../b", "A"} {
				list[i] = wrong
				if List(list) {
					t.Errorf("%v: %q is no path", list, wrong)
				}
			}
			list[i] = "a/b"
		}
	}
	if List(make([]string, 1<<24)) || !List(nil) || !List([]string{}) || !List([]string{"a", "b", "a"}) {
		t.Error("a list")
	}
}
