package deprec

import (
	"bytes"
	"encoding/binary"
	"regexp"
	"slices"
	"strings"
	"sync"
	"testing"
	"unsafe"

	"crucible/api"
)

// A path is told here by patterns of its own.
var (
	whole = regexp.MustCompile(`^[a-z0-9._-]+(/[a-z0-9._-]+)*$`)
	dots  = regexp.MustCompile(`(^|/)\.\.?(/|$)`)
)

func isPath(s string) bool {
	return len(s) <= 16 && whole.MatchString(s) && !dots.MatchString(s) && !strings.Contains(s, "\n")
}

// laid is the found's bytes, whether it may be or not.
func laid(f api.Found) string {
	var own bytes.Buffer
	text := func(s string) {
		own.WriteByte(byte(len(s)))
		own.WriteString(s)
	}
	text(f.Out)
	own.Write(binary.LittleEndian.AppendUint32(nil, uint32(f.Time)))
	own.WriteByte(byte(len(f.Ins)))
	for _, in := range f.Ins {
		text(in)
	}
	return string(binary.LittleEndian.AppendUint16(nil, uint16(own.Len()))) + own.String()
}

// read is the found that the bytes tell; false: it is none. It steps from byte to byte, and holds each against what it must be.
func read(s string) (api.Found, bool) {
	if len(s) < 2 || int(binary.LittleEndian.Uint16([]byte(s))) != len(s)-2 {
		return api.Found{}, false
	}
	s = s[2:]
	path := func() (string, bool) {
		if len(s) == 0 || len(s) < 1+int(s[0]) {
			return "", false
		}
		own := s[1 : 1+int(s[0])]
		s = s[1+len(own):]
		return own, isPath(own)
	}
	out, ok := path()
	if !ok || len(s) < 5 {
		return api.Found{}, false
	}
	f := api.Found{Out: out, Time: int(binary.LittleEndian.Uint32([]byte(s)))}
	count := int(s[4])
	s = s[5:]
	for range count {
		in, ok := path()
		if !ok {
			return api.Found{}, false
		}
		f.Ins = append(f.Ins, in)
	}
	return f, s == "" && f.Time >= 1 && f.Time <= 1048576 && count <= 8
}

// even: are two founds the same?
func even(a, b api.Found) bool {
	return a.Out == b.Out && a.Time == b.Time && slices.Equal(a.Ins, b.Ins)
}

// wantBytes holds both calls against a found that may be, and its bytes.
func wantBytes(t *testing.T, f api.Found, s string) {
	t.Helper()
	if got, e := Put(f); got != s || e != api.OK {
		t.Errorf("P15.1: Put(%v): %q, %d; want %q", f, got, e, s)
	}
	if got, e := Get(s); !even(got, f) || e != api.OK {
		t.Errorf("P15.1: Get(%q): %v, %d; want %v", s, got, e, f)
	}
}

func wantNoPut(t *testing.T, f api.Found) {
	t.Helper()
	if got, e := Put(f); got != "" || e != api.ErrDeprecForm {
		t.Errorf("P15.1: Put(%.100v): %q, %d; want ErrDeprecForm", f, got, e)
	}
}

func wantNoGet(t *testing.T, s string) {
	t.Helper()
	if got, e := Get(s); !even(got, api.Found{}) || e != api.ErrDeprecForm {
		t.Errorf("P15.1: Get(%.100q): %v, %d; want ErrDeprecForm", s, got, e)
	}
}

// wantNone holds both calls against a found that may not be, laid as if it might.
func wantNone(t *testing.T, f api.Found) {
	t.Helper()
	wantNoPut(t, f)
	wantNoGet(t, laid(f))
}

// wantGet holds Get against what is read here.
func wantGet(t *testing.T, s string) {
	t.Helper()
	if f, ok := read(s); ok {
		wantBytes(t, f, s)
	} else {
		wantNoGet(t, s)
	}
}

// longest is the found of the most bytes.
func longest() api.Found {
	return api.Found{Out: strings.Repeat("o", api.MaxName), Time: api.MaxTime, Ins: slices.Repeat([]string{strings.Repeat("i", api.MaxName)}, api.MaxList)}
}

// wrong are texts that are no paths.
func wrong() []string {
	return []string{"", "/a", "a/", "a//b", "./a", "a/.", "a/..", "a/../b", "..", ".", "/", "A", "a b", " a", "a ", "a\t", "a\n", "\na", "a|b", "\x00", "\x01a", "é", "\xff", strings.Repeat("a", api.MaxName+1), strings.Repeat("a", 255)}
}

func TestBytes(t *testing.T) {
	wantBytes(t, api.Found{Out: "a", Time: 1}, "\x07\x00\x01a\x01\x00\x00\x00\x00")
	wantBytes(t, api.Found{Out: "a", Time: 1, Ins: []string{}}, "\x07\x00\x01a\x01\x00\x00\x00\x00")
	wantBytes(t, api.Found{Out: "a", Time: 1, Ins: []string{"b"}}, "\x09\x00\x01a\x01\x00\x00\x00\x01\x01b")
	wantBytes(t, api.Found{Out: "a.o", Time: 258, Ins: []string{"x.h", "y/z.h"}}, "\x13\x00\x03a.o\x02\x01\x00\x00\x02\x03x.h\x05y/z.h")
	wantBytes(t, api.Found{Out: "a", Time: 66051, Ins: []string{"a", "a", "a"}}, "\x0d\x00\x01a\x03\x02\x01\x00\x03\x01a\x01a\x01a")
	wantBytes(t, api.Found{Out: "-", Time: 1048575, Ins: []string{"...", "_", "0"}}, "\x0f\x00\x01-\xff\xff\x0f\x00\x03\x03...\x01_\x010")
	wantBytes(t, longest(), "\x9e\x00\x10oooooooooooooooo\x00\x00\x10\x00\x08"+strings.Repeat("\x10iiiiiiiiiiiiiiii", 8))
}

func TestTimes(t *testing.T) {
	for _, ins := range [][]string{nil, {"b"}, {"b", "c/d"}} {
		for n := 1; n <= 4*api.MaxTime; n = n*5/4 + 1 {
			for _, time := range []int{n - 1, n, n + 1} {
				f := api.Found{Out: "a", Time: time, Ins: ins}
				if 1 <= time && time <= api.MaxTime {
					wantBytes(t, f, laid(f))
				} else {
					wantNone(t, f)
				}
			}
		}
		for bit := range 21 {
			f := api.Found{Out: "a", Time: 1 << bit, Ins: ins}
			wantBytes(t, f, laid(f))
		}
		wantBytes(t, api.Found{Out: "a", Time: api.MaxTime}, "\x07\x00\x01a\x00\x00\x10\x00\x00")
		for _, time := range []int{0, -1, -9, api.MaxTime + 1, 1 << 24, 1<<31 - 1, 1 << 31, 1<<32 - 1} {
			wantNone(t, api.Found{Out: "a", Time: time, Ins: ins})
		}
		// Four bytes of these are a time that may be.
		for _, time := range []int{1<<32 + 1, 1<<40 + 7, -1<<63 + 1, 1 - 1<<32} {
			wantNoPut(t, api.Found{Out: "a", Time: time, Ins: ins})
		}
	}
}

func TestPaths(t *testing.T) {
	for _, s := range []string{"a", "0", "a/b", "a/b/c", "..a", "a..", ".../a", "-", "_", strings.Repeat("a", api.MaxName), "a/" + strings.Repeat("b", api.MaxName-2)} {
		for _, f := range []api.Found{{Out: s, Time: 7}, {Out: s, Time: 7, Ins: []string{"b"}}, {Out: "b", Time: 7, Ins: []string{s}}, {Out: s, Time: 7, Ins: []string{"b", s, s}}} {
			wantBytes(t, f, laid(f))
		}
	}
	for _, s := range wrong() {
		wantNone(t, api.Found{Out: s, Time: 7})
		wantNone(t, api.Found{Out: s, Time: 7, Ins: []string{"b"}})
		for n := range api.MaxList {
			for i := range n + 1 {
				ins := slices.Repeat([]string{"b"}, n+1)
				ins[i] = s
				wantNone(t, api.Found{Out: "a", Time: 7, Ins: ins})
			}
		}
	}
	for b := range 256 {
		one := string([]byte{byte(b)})
		for _, s := range []string{one, one + "a", "a" + one, "a" + one + "a"} {
			for _, f := range []api.Found{{Out: s, Time: 7}, {Out: "b", Time: 7, Ins: []string{s}}} {
				if isPath(s) {
					wantBytes(t, f, laid(f))
				} else {
					wantNone(t, f)
				}
			}
		}
	}
	for n := range 256 {
		s := strings.Repeat("a", n)
		for _, f := range []api.Found{{Out: s, Time: 7}, {Out: "b", Time: 7, Ins: []string{s}}} {
			if 1 <= n && n <= api.MaxName {
				wantBytes(t, f, laid(f))
			} else {
				wantNone(t, f)
			}
		}
	}
}

func TestNumbersOfIns(t *testing.T) {
	for n := range 300 {
		f := api.Found{Out: "a", Time: 7, Ins: slices.Repeat([]string{"b"}, n)}
		if n <= api.MaxList {
			wantBytes(t, f, laid(f))
		} else {
			wantNone(t, f)
		}
	}
	wantNoPut(t, api.Found{Out: "a", Time: 7, Ins: make([]string, 1<<24)})
}

func TestNoFounds(t *testing.T) {
	wantNone(t, api.Found{})
	wantNone(t, api.Found{Out: "a"})
	wantNone(t, api.Found{Time: 1})
	wantNone(t, api.Found{Ins: []string{"a"}})
	wantNone(t, api.Found{Out: "A", Time: -1, Ins: []string{""}})
}

func TestNoBytes(t *testing.T) {
	for _, s := range []string{
		"", "\x00", "\x00\x00", "\x01", "\x01\x00", "\x01\x00\x00", "\x01\x00\x01", "\x02\x00\x01a", "\x06\x00\x01a\x01\x00\x00\x00",
		// How many follow is told wrong, in one byte, in four, or with the highest first.
		"\x06\x00\x01a\x01\x00\x00\x00\x00", "\x08\x00\x01a\x01\x00\x00\x00\x00", "\x09\x00\x01a\x01\x00\x00\x00\x00", "\x07\x01\x01a\x01\x00\x00\x00\x00", "\x07\x01a\x01\x00\x00\x00\x00", "\x07\x00\x00\x00\x01a\x01\x00\x00\x00\x00", "\x00\x07\x01a\x01\x00\x00\x00\x00",
		// The time stands with the highest first, in two bytes, or in eight.
		"\x07\x00\x01a\x00\x00\x00\x01\x00", "\x05\x00\x01a\x01\x00\x00", "\x0b\x00\x01a\x01\x00\x00\x00\x00\x00\x00\x00\x00",
		// More or fewer are told than there are.
		"\x07\x00\x01a\x01\x00\x00\x00\x01", "\x09\x00\x01a\x01\x00\x00\x00\x00\x01b", "\x09\x00\x01a\x01\x00\x00\x00\x02\x01b", "\x09\x00\x01a\x01\x00\x00\x00\x01\x02b", "\x0a\x00\x01a\x01\x00\x00\x00\x01\x01bb", "\x08\x00\x01a\x01\x00\x00\x00\x01\x00",
		"\x08\x00\x01aa\x01\x00\x00\x00\x00", "\x08\x00\x03aa\x01\x00\x00\x00\x00", "\x07\x00\xffa\x01\x00\x00\x00\x00", "\x07\x00\x01a\x01\x00\x00\x00\xff",
		// More is there than one.
		"\x07\x00\x01a\x01\x00\x00\x00\x00\x00", "\x07\x00\x01a\x01\x00\x00\x00\x00\x07\x00\x01a\x01\x00\x00\x00\x00", "\x0e\x00\x01a\x01\x00\x00\x00\x00\x01a\x01\x00\x00\x00\x00",
	} {
		wantNoGet(t, s)
	}
}

// Of a found's bytes no part is one's, at the front or behind; nor are they with more behind them.
func TestEachCut(t *testing.T) {
	for _, f := range []api.Found{{Out: "a", Time: 1}, {Out: "src/main.o", Time: 90210, Ins: []string{"a.h", "b/c.h", "d"}}, longest()} {
		s, e := Put(f)
		if e != api.OK {
			t.Fatalf("P15.1: Put(%v): %d", f, e)
		}
		for k := range s {
			wantNoGet(t, s[:k])
			wantNoGet(t, s+s[:k+1])
			if k > 0 {
				wantGet(t, s[k:])
			}
			for j := k + 1; j <= len(s); j++ {
				wantGet(t, s[:k]+s[j:])
			}
		}
	}
}

// Each byte is each other one; or one more is put in.
func TestEachByteAtEachPlace(t *testing.T) {
	for _, f := range []api.Found{{Out: "a", Time: 1}, {Out: "a/b", Time: 258, Ins: []string{"c", "d/e"}}, {Out: "a.", Time: api.MaxTime, Ins: []string{"a/../b", "."}}, {Out: "a", Time: 513, Ins: slices.Repeat([]string{"b"}, 8)}} {
		s := laid(f)
		for k := range s {
			for b := range 256 {
				turned := []byte(s)
				turned[k] = byte(b)
				wantGet(t, string(turned))
				more := s[:k] + string([]byte{byte(b)}) + s[k:]
				wantGet(t, more)
				// How many follow is told anew, so that what follows alone is wrong.
				wantGet(t, recounted(string(turned)))
				wantGet(t, recounted(more))
			}
		}
	}
}

// recounted are the same bytes, but for the first two, which tell how many follow.
func recounted(s string) string {
	n := len(s) - 2
	return string([]byte{byte(n), byte(n >> 8)}) + s[2:]
}

func TestEachShortText(t *testing.T) {
	texts, ones := []string{""}, 0
	for range 8 {
		var longer []string
		for _, s := range texts {
			for _, b := range []string{"\x00", "\x01", "\x02", "a", "/"} {
				longer = append(longer, s+b)
			}
		}
		texts = longer
		for _, s := range texts {
			// Ahead of each stands what makes it a found's bytes at times: how many follow, and, for some, an Out.
			for _, s := range []string{s, recounted("\x00\x00" + s), recounted("\x00\x00\x01a\x01\x00\x00" + s)} {
				wantGet(t, s)
				if _, ok := read(s); ok {
					ones++
				}
			}
		}
	}
	if ones < 100 {
		t.Errorf("only %d of them are a found's", ones)
	}
}

// Founds that differ have bytes that differ, though each field tries to look like the next one.
func TestBytesTellOneFound(t *testing.T) {
	seen := map[string]api.Found{}
	lists := [][]string{nil, {"1"}, {"11"}, {"1", "1"}, {"1", "11"}, {"11", "1"}, {"1", "1", "1"}, {"1/1"}, {"a", "1"}, {"1", "a"}}
	for _, out := range []string{"1", "11", "a", "a1", "1/1"} {
		for _, time := range []int{1, 49, 256, 12545, 12593, 65537} {
			for _, ins := range lists {
				f := api.Found{Out: out, Time: time, Ins: ins}
				s, e := Put(f)
				if other, is := seen[s]; is || e != api.OK {
					t.Fatalf("P15.1: %v, %v: %q, %d", f, other, s, e)
				}
				seen[s] = f
				wantBytes(t, f, s)
			}
		}
	}
}

func TestGreatTexts(t *testing.T) {
	for _, b := range []string{"a", "\x00", "\x01", "\xff", "\x07\x00\x01a\x01\x00\x00\x00\x00"} {
		great := strings.Repeat(b, 1<<20)
		wantNoGet(t, great)
		wantNoGet(t, "\xff\xff"+great)
		wantNoGet(t, "\x07\x00\x01a\x01\x00\x00\x00\x00"+great)
		wantNoGet(t, recounted(great[:1<<16]))
		wantNoGet(t, recounted(great[:1<<16+1]))
		wantNoPut(t, api.Found{Out: great, Time: 1})
		wantNoPut(t, api.Found{Out: "a", Time: 1, Ins: []string{"a", great}})
	}
}

func TestArgumentsStay(t *testing.T) {
	room := []string{"b", "c/d", "e", "spare", "A"}
	for n := range len(room) {
		f := api.Found{Out: "a", Time: 7, Ins: room[:n]}
		want := laid(f)
		if got, e := Put(f); got != want || e != api.OK {
			t.Errorf("P15.1: Put(%v): %q, %d; want %q", f, got, e, want)
		}
		if !slices.Equal(room, []string{"b", "c/d", "e", "spare", "A"}) {
			t.Fatalf("R4: Put turned its argument: %v", room)
		}
	}
	wantNoPut(t, api.Found{Out: "a", Time: 7, Ins: room})
	if !slices.Equal(room, []string{"b", "c/d", "e", "spare", "A"}) {
		t.Fatalf("R4: Put turned its argument: %v", room)
	}
}

// within: does the part lie in the memory of all?
func within(all, part string) bool {
	first, at := uintptr(unsafe.Pointer(unsafe.StringData(all))), uintptr(unsafe.Pointer(unsafe.StringData(part)))
	return first <= at && at < first+uintptr(len(all))
}

func TestAnswersAreNewMemory(t *testing.T) {
	s := strings.Clone("\x11\x00\x03a/b\x01\x00\x00\x00\x02\x03c.h\x03d.h")
	// The found's texts are parts of one that its bytes could be a part of, too.
	f := api.Found{Out: s[3:6], Time: 1, Ins: []string{s[12:15], s[16:19]}}
	one, _ := Put(f)
	two, _ := Put(f)
	if one != s || two != s || within(s, one) || within(one, two) {
		t.Errorf("R4: %q, %q: an answer shares memory", one, two)
	}
	first, _ := Get(s)
	second, _ := Get(s)
	if !even(first, f) || !even(second, f) {
		t.Fatalf("P15.1: %v, %v", first, second)
	}
	texts := []string{first.Out, first.Ins[0], first.Ins[1], second.Out, second.Ins[0], second.Ins[1]}
	for i, text := range texts {
		if within(s, text) {
			t.Errorf("R4: %q is a part of the argument", text)
		}
		for _, other := range texts[:i] {
			if within(other, text) {
				t.Errorf("R4: %q shares memory with %q", text, other)
			}
		}
	}
	first.Ins[0] = "x"
	if third, _ := Get(s); !even(second, f) || !even(third, f) {
		t.Errorf("R4: two answers share a list: %v, %v", second, third)
	}
}

func TestFromSeveralGoroutines(t *testing.T) {
	var all sync.WaitGroup
	f := api.Found{Out: "a/b", Time: 12, Ins: []string{"c", "d"}}
	for range 8 {
		all.Go(func() {
			for range 100 {
				wantBytes(t, f, "\x0d\x00\x03a/b\x0c\x00\x00\x00\x02\x01c\x01d")
				wantNoPut(t, api.Found{Out: "a/", Time: 12})
				wantNoGet(t, "\x08\x00\x01a\x01\x00\x00\x00\x00")
			}
		})
	}
	all.Wait()
}
