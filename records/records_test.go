package records

import (
	"strings"
	"testing"

	"crucible/api"
)

// record is one that may be.
func record() api.Record {
	return api.Record{Out: "a/b.o", Time: 7, Sign: "a/b.o|b.c||n|cc b.c"}
}

func want(t *testing.T, r api.Record, want bool) {
	t.Helper()
	if May(r) != want {
		t.Errorf("P13.1: %v: not %v", r, want)
	}
}

func TestOuts(t *testing.T) {
	for _, out := range []string{"a", "0", "a/b", "..a", "...", "-", "_", strings.Repeat("a", api.MaxName)} {
		r := record()
		r.Out = out
		want(t, r, true)
	}
	for _, out := range []string{"", "/a", "a/", "a//b", "./a", "a/..", "..", ".", "A", "a b", "a\t", "a\n", "\x00", "\xff", strings.Repeat("a", api.MaxName+1), strings.Repeat("a", 1<<20)} {
		r := record()
		r.Out = out
		want(t, r, false)
	}
}

func TestTimes(t *testing.T) {
	for _, time := range []int{1, 2, 10, api.MaxTime - 1, api.MaxTime} {
		r := record()
		r.Time = time
		want(t, r, true)
	}
	for _, time := range []int{0, -1, api.MaxTime + 1, 1 << 32, 1<<32 + 1, 1<<63 - 1, -1 << 63} {
		r := record()
		r.Time = time
		want(t, r, false)
	}
}

func TestSigns(t *testing.T) {
	for n := range 2 * api.MaxText {
		r := record()
		r.Sign = strings.Repeat("~", n)
		want(t, r, 1 <= n && n <= api.MaxText)
	}
	for b := range 256 {
		one := string([]byte{byte(b)})
		for _, sign := range []string{one, one + "s", "s" + one, "s" + one + "s"} {
			r := record()
			r.Sign = sign
			want(t, r, 32 <= b && b <= 126)
		}
	}
	want(t, api.Record{}, false)
}
