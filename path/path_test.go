package path

import (
	stdpath "path"
	"strings"
	"sync"
	"testing"
	"unsafe"

	"crucible/api"
)

// allowed is written out byte by byte, so that a slip in the layer ahead shows here too.
const allowed = "abcdefghijklmnopqrstuvwxyz0123456789._-/"

func wantPath(t *testing.T, s, want string) {
	t.Helper()
	if got, e := Clean(s); got != want || e != api.OK {
		t.Errorf("P2.1: %q: %q, %d; want %q", s, got, e, want)
	}
}

func wantNone(t *testing.T, s string) {
	t.Helper()
	if got, e := Clean(s); got != "" || e != api.ErrPathForm {
		t.Errorf("P2.1: %q: %q, %d; want ErrPathForm", s, got, e)
	}
}

func TestPathsStayAsTheyAre(t *testing.T) {
	for _, s := range []string{
		"a", "0", "-", "_", "out", "main.o", "src/main.c", "a/b/c/d/e/f/g/h", "my_lib-2.a",
		"...", "....", ".a", "..a", "a.", "a..", "a../b", ".../a", "a/...", "-.", "._", "..-/_..",
		"0123456789abcdef", "abcdefg/ijklmnop",
	} {
		wantPath(t, s, s)
	}
}

func TestWhatIsLeftOut(t *testing.T) {
	for _, c := range [][2]string{
		{"a/", "a"}, {"a//", "a"}, {"a//b", "a/b"}, {"a///b", "a/b"}, {"a/b/", "a/b"},
		{"./a", "a"}, {"a/.", "a"}, {"a/./b", "a/b"}, {"././a/././", "a"}, {".//a", "a"}, {"./a/./b/.", "a/b"},
		{"a/../b", "b"}, {"a/b/..", "a"}, {"a/b/../", "a"}, {"a/b/../c", "a/c"}, {"a/b/../../c", "c"},
		{"a//../b", "b"}, {"a/./../b", "b"}, {"a/../b/../c", "c"}, {".../../a", "a"}, {"./a/../b", "b"},
		{"a/../.../..a", ".../..a"}, {"a/b/c/../../d", "a/d"},
	} {
		wantPath(t, c[0], c[1])
	}
}

func TestNoPath(t *testing.T) {
	for _, s := range []string{
		"", "/", "//", "/a", "//a", "/.", "/..", "/./a", "/a/b", "/a/../b",
		".", "./", "./.", ".//.", "..", "../", "../a", "./..", "./../a", "..//a", "../..",
		"a/..", "a/../", "a/../.", "a/./..", "a//..", "a/b/../..", "a/../b/..",
		"a/../..", "a/../../a", "a/../../b/c", "a/b/../../..", "a/b/../../../c",
		"A", "a b", "a/B", "a/ /b", "a\\b", "a:b", "a|b", "$a", "a\n", "\x00", "é", "a/é", "\xff", "a/\xff", "A/../b", " /../a",
	} {
		wantNone(t, s)
	}
}

func TestEachByteAlone(t *testing.T) {
	for b := range 256 {
		one := string([]byte{byte(b)})
		switch {
		case one == "." || one == "/":
			wantNone(t, one)
		case strings.Contains(allowed, one):
			wantPath(t, one, one)
			wantPath(t, "./"+one+"/./", one)
		default:
			for _, s := range []string{one, one + "a", "a" + one, "a/" + one, one + "/../a", "a/" + one + "/../b"} {
				wantNone(t, s)
			}
		}
	}
}

// It is the text's own length that counts, not that of what would be kept.
func TestLengths(t *testing.T) {
	for n := 1; n <= 4*api.MaxName; n++ {
		plain, slashes := strings.Repeat("a", n), "a"+strings.Repeat("/", n-1)
		if n <= api.MaxName {
			wantPath(t, plain, plain)
			wantPath(t, slashes, "a")
		} else {
			wantNone(t, plain)
			wantNone(t, slashes)
		}
	}
	wantPath(t, "a/./././././././", "a")
	wantNone(t, "a/././././././././")
	wantNone(t, "aa/./././././././")
	wantNone(t, strings.Repeat("a/", 1<<23))
}

// Go's own Clean lets a `..` that takes none away stand at the front, and tells `.` where none is kept.
func TestEachShortText(t *testing.T) {
	texts := []string{""}
	for len(texts[0]) < 8 {
		var longer []string
		for _, s := range texts {
			for _, b := range []string{"a", "b", ".", "/"} {
				longer = append(longer, s+b)
			}
		}
		texts = longer
		for _, s := range texts {
			want := stdpath.Clean(s)
			if s[0] == '/' || want == "." || want == ".." || strings.HasPrefix(want, "../") {
				wantNone(t, s)
				continue
			}
			wantPath(t, s, want)
			wantPath(t, want, want)
		}
	}
}

func TestAnswerIsNewMemory(t *testing.T) {
	for _, s := range []string{"a", "a/", "./main.o", "a/b", "a/../b"} {
		got, e := Clean(s)
		if e != api.OK {
			t.Fatalf("P2.1: %q: %d", s, e)
		}
		first := uintptr(unsafe.Pointer(unsafe.StringData(s)))
		if at := uintptr(unsafe.Pointer(unsafe.StringData(got))); first <= at && at < first+uintptr(len(s)) {
			t.Errorf("R4: %q: the answer is a part of it", s)
		}
	}
}

func TestFromSeveralGoroutines(t *testing.T) {
	var all sync.WaitGroup
	for range 8 {
		all.Go(func() {
			for range 200 {
				wantPath(t, "./a//b/../c", "a/c")
				wantNone(t, "a/../..")
			}
		})
	}
	all.Wait()
}
