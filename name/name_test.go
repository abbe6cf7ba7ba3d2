package name

import (
	"strings"
	"testing"

	"crucible/api"
)

// allowed is written out byte by byte, so that a slip in the program's ranges is not repeated here.
const allowed = "abcdefghijklmnopqrstuvwxyz0123456789._-/"

func TestOrdinaryNames(t *testing.T) {
	for _, s := range []string{
		"a", "z", "0", "9", "out", "main.o", "src/main.c", "my_lib-2.a",
		".", "..", "/", "-", "_", "//", "/a", "a/", "./a/../b", "0123456789",
	} {
		if !May(s) {
			t.Errorf("P1.1: %q is a name", s)
		}
	}
}

func TestWrongNames(t *testing.T) {
	for _, s := range []string{
		" ", "a b", " a", "a ", "Main", "maiN", "a:b", "a|b", "||", "$a", "a$", "a\\b",
		"a\tb", "a\n", "\x00", "a\x00", "a+b", "a,b", "a@b", "a[b", "a`b", "a{b",
		"é", "aé", "ſ", "а", "a\u0301", "\xff", "a\xffb", "\ufffd", "\xc3", "１",
	} {
		if May(s) {
			t.Errorf("P1.1: %q is no name", s)
		}
	}
}

func TestLengths(t *testing.T) {
	for n := range 4 * api.MaxName {
		for _, b := range []string{"a", "0", "."} {
			s := strings.Repeat(b, n)
			if want := 1 <= n && n <= api.MaxName; May(s) != want {
				t.Errorf("P1.1: %d bytes %q: not %v", n, b, want)
			}
		}
	}
	for _, n := range []int{256, 256 + 1, 256 + api.MaxName, 1 << 16, 1<<16 + 1, 1 << 24} {
		if May(strings.Repeat("a", n)) {
			t.Errorf("P1.1: %d bytes are no name", n)
		}
	}
}

// The length is one of bytes: sixteen runes of two bytes, or eight of them, are no name either way.
func TestLengthIsOfBytes(t *testing.T) {
	for _, s := range []string{strings.Repeat("é", api.MaxName), strings.Repeat("é", api.MaxName/2)} {
		if May(s) {
			t.Errorf("P1.1: %q is no name", s)
		}
	}
}

func TestEachByteAtEachPlace(t *testing.T) {
	for b := range 256 {
		want := strings.IndexByte(allowed, byte(b)) >= 0
		for n := 1; n <= api.MaxName; n++ {
			for i := range n {
				s := []byte(strings.Repeat("a", n))
				s[i] = byte(b)
				if May(string(s)) != want {
					t.Fatalf("P1.1: byte %d at %d of %d: not %v", b, i, n, want)
				}
			}
		}
	}
}
