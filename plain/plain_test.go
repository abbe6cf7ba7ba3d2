package plain

import (
	"strings"
	"testing"
)

func TestLengths(t *testing.T) {
	for most := range 40 {
		for n := range 80 {
			if want := n <= most; May(strings.Repeat("~", n), most) != want {
				t.Errorf("%d bytes of at most %d: not %v", n, most, want)
			}
		}
	}
	if May("", -1) || May(strings.Repeat("a", 1<<24), 1<<16) {
		t.Error("a text that is longer may not be")
	}
}

func TestEachByteAtEachPlace(t *testing.T) {
	for b := range 256 {
		want := 32 <= b && b <= 126
		for i := range 16 {
			s := []byte(strings.Repeat(" ", 16))
			s[i] = byte(b)
			if May(string(s), 16) != want {
				t.Fatalf("byte %d at %d: not %v", b, i, want)
			}
		}
	}
}
