package logline

import (
	"regexp"
	"strconv"
	"strings"
	"sync"
	"testing"
	"unsafe"

	"crucible/api"
)

// A line's parts are told here by patterns of their own.
var (
	whole  = regexp.MustCompile(`^[a-z0-9._-]+(/[a-z0-9._-]+)*$`)
	dots   = regexp.MustCompile(`(^|/)\.\.?(/|$)`)
	digits = regexp.MustCompile(`^[1-9][0-9]{0,6}$`)
	signed = regexp.MustCompile(`^[ -~]+\n$`)
)

// read is the record that the line tells; false: it is none.
func read(line string) (api.Record, bool) {
	parts := strings.Split(line, "\t")
	if len(parts) != 3 || len(parts[0]) > api.MaxName || len(parts[2]) > api.MaxText+1 {
		return api.Record{}, false
	}
	if !whole.MatchString(parts[0]) || dots.MatchString(parts[0]) || !digits.MatchString(parts[1]) || !signed.MatchString(parts[2]) {
		return api.Record{}, false
	}
	time, err := strconv.Atoi(parts[1])
	if err != nil || time > api.MaxTime {
		return api.Record{}, false
	}
	return api.Record{Out: parts[0], Time: time, Sign: parts[2][:len(parts[2])-1]}, true
}

// wantLine holds both calls against a record that may be, and its line.
func wantLine(t *testing.T, r api.Record, line string) {
	t.Helper()
	if got, e := Put(r); got != line || e != api.OK {
		t.Errorf("P13.1: Put(%v): %q, %d; want %q", r, got, e, line)
	}
	if got, e := Get(line); got != r || e != api.OK {
		t.Errorf("P13.1: Get(%q): %v, %d; want %v", line, got, e, r)
	}
}

func wantNoPut(t *testing.T, r api.Record) {
	t.Helper()
	if got, e := Put(r); got != "" || e != api.ErrLoglineForm {
		t.Errorf("P13.1: Put(%v): %q, %d; want ErrLoglineForm", r, got, e)
	}
}

func wantNoGet(t *testing.T, s string) {
	t.Helper()
	if got, e := Get(s); got != (api.Record{}) || e != api.ErrLoglineForm {
		t.Errorf("P13.1: Get(%q): %v, %d; want ErrLoglineForm", s, got, e)
	}
}

// wantGet holds Get against the patterns.
func wantGet(t *testing.T, s string) {
	t.Helper()
	if r, ok := read(s); ok {
		wantLine(t, r, s)
	} else {
		wantNoGet(t, s)
	}
}

// longest is the record of the longest line.
func longest() api.Record {
	return api.Record{Out: strings.Repeat("o", api.MaxName), Time: api.MaxTime, Sign: strings.Repeat("~", api.MaxText)}
}

func TestLines(t *testing.T) {
	wantLine(t, api.Record{Out: "a", Time: 1, Sign: "s"}, "a\t1\ts\n")
	wantLine(t, api.Record{Out: "src/main.o", Time: 1048576, Sign: "src/main.o|src/main.c||n|gcc -c"}, "src/main.o\t1048576\tsrc/main.o|src/main.c||n|gcc -c\n")
	wantLine(t, api.Record{Out: "7", Time: 30, Sign: "7"}, "7\t30\t7\n")
	wantLine(t, api.Record{Out: "a-b_c.d", Time: 100, Sign: " "}, "a-b_c.d\t100\t \n")
	wantLine(t, api.Record{Out: "...", Time: 12, Sign: "  a  b  "}, "...\t12\t  a  b  \n")
	wantLine(t, api.Record{Out: "a", Time: 5, Sign: `\t\n$x"`}, "a\t5\t\\t\\n$x\"\n")
	wantLine(t, longest(), strings.Repeat("o", 16)+"\t1048576\t"+strings.Repeat("~", 2048)+"\n")
}

func TestTimes(t *testing.T) {
	for n := 1; n <= api.MaxTime; n = n*3/2 + 1 {
		for _, time := range []int{n, n - 1, n + 1} {
			if 1 <= time && time <= api.MaxTime {
				wantLine(t, api.Record{Out: "a", Time: time, Sign: "s"}, "a\t"+strconv.Itoa(time)+"\ts\n")
			}
		}
	}
	wantLine(t, api.Record{Out: "a", Time: api.MaxTime - 1, Sign: "s"}, "a\t1048575\ts\n")
	for _, time := range []int{0, -1, -9, api.MaxTime + 1, 1<<31 - 1, 1 << 32, 1<<32 + 1, 1<<63 - 1, -1 << 63} {
		wantNoPut(t, api.Record{Out: "a", Time: time, Sign: "s"})
		wantNoGet(t, "a\t"+strconv.Itoa(time)+"\ts\n")
	}
}

// What other texts of numbers there are is refused, though it is of a time that may be.
func TestTimesThatAreWrittenOtherwise(t *testing.T) {
	for _, digits := range []string{
		"", " ", "0", "00", "01", "007", "+1", "-1", "--1", "+-1", " 1", "1 ", "1 2", "1.", "1.0", "1,0", "1_0", "1e3", "0x1", "0b1", "0o1", "x", "a", "1a", "a1", "\x00", "1\x00", "1\n", "\n1", "٣", "１", "\xff",
		"1048577", "01048576", "2097152", "9999999", "10485760", "4294967297", "18446744073709551617", "9223372036854775808", "99999999999999999999", "-9223372036854775809", strings.Repeat("0", 100) + "1", "1" + strings.Repeat("0", 100),
	} {
		wantNoGet(t, "a\t"+digits+"\ts\n")
	}
}

func TestOuts(t *testing.T) {
	for _, out := range []string{"a", "0", "a/b", "a/b/c", "..a", "a..", ".../a", "-", "_", strings.Repeat("a", api.MaxName), "a/" + strings.Repeat("b", api.MaxName-2)} {
		wantLine(t, api.Record{Out: out, Time: 7, Sign: "s"}, out+"\t7\ts\n")
	}
	for _, out := range []string{"", "/a", "a/", "a//b", "./a", "a/.", "a/..", "a/../b", "..", ".", "/", "A", "a b", " a", "a ", "a\tb", "\ta", "a\t", "a\n", "\na", "a|b", "\x00", "é", "\xff", strings.Repeat("a", api.MaxName+1), strings.Repeat("a", 1<<20)} {
		wantNoPut(t, api.Record{Out: out, Time: 7, Sign: "s"})
		wantNoGet(t, out+"\t7\ts\n")
	}
}

func TestSigns(t *testing.T) {
	for n := range 2 * api.MaxText {
		r := api.Record{Out: "a", Time: 7, Sign: strings.Repeat("s", n)}
		if 1 <= n && n <= api.MaxText {
			wantLine(t, r, "a\t7\t"+r.Sign+"\n")
		} else {
			wantNoPut(t, r)
			wantNoGet(t, "a\t7\t"+r.Sign+"\n")
		}
	}
	for b := range 256 {
		one := string([]byte{byte(b)})
		for _, sign := range []string{one, one + "s", "s" + one, "s" + one + "s", one + one} {
			r := api.Record{Out: "a", Time: 7, Sign: sign}
			if 32 <= b && b <= 126 {
				wantLine(t, r, "a\t7\t"+sign+"\n")
			} else {
				wantNoPut(t, r)
				wantNoGet(t, "a\t7\t"+sign+"\n")
			}
		}
	}
}

func TestNoRecords(t *testing.T) {
	wantNoPut(t, api.Record{})
	wantNoPut(t, api.Record{Out: "a", Time: 1})
	wantNoPut(t, api.Record{Out: "a", Sign: "s"})
	wantNoPut(t, api.Record{Time: 1, Sign: "s"})
	wantNoPut(t, api.Record{Out: "A", Time: -1, Sign: "\n"})
}

func TestNoLines(t *testing.T) {
	for _, s := range []string{
		"", "\t", "\n", "\t\t", "\t\t\n", "a", "a\n", "a\t", "a\t\n", "a\t1", "a\t1\n", "a\t1\t", "a\t1\t\n", "a\t1\ts", "a\t1s\n", "a1\ts\n",
		"a 1 s\n", "a\t1 s\n", "a 1\ts\n", "a\t\t1\ts\n", "a\t1\t\ts\n", "a\t1\ts\t\n", "a\t1\ts\tt\n", "\ta\t1\ts\n", " a\t1\ts\n", "a\t1\ts\r\n", "a\t1\ts\n\n", "a\t1\ts\n ", "\na\t1\ts\n", "a\t1\ts\n\x00",
		"a\n1\ts\n", "a\t1\ns\n", "a\n1\ns\n", "1\ta\ts\n", "s\ta\t1\n", "a\t1\ts\nb\t2\tt\n", "a\t1\ts\n\xff", "\xef\xbb\xbfa\t1\ts\n",
	} {
		wantNoGet(t, s)
	}
}

// Of a line no part is a line, at the front or behind; nor is it with more behind it.
func TestEachCut(t *testing.T) {
	for _, r := range []api.Record{{Out: "a", Time: 1, Sign: "s"}, {Out: "src/main.o", Time: 90210, Sign: "a b|c||d|cc a\\"}, longest()} {
		line, e := Put(r)
		if e != api.OK {
			t.Fatalf("P13.1: Put(%v): %d", r, e)
		}
		for k := range line {
			wantNoGet(t, line[:k])
			wantNoGet(t, line+line[:k+1])
			// Without what it begins with, it may be a line of another Out.
			wantGet(t, line[k:])
			wantGet(t, line[:k]+line[k+1:])
		}
	}
}

// Each byte of a line is each other one.
func TestEachByteAtEachPlace(t *testing.T) {
	for _, line := range []string{"a\t1\ts\n", "b/c.o\t1048576\tb/c.o|x|y|n| z\n", "a/../b\t12\ts\n", "a\t1048577\ts\n"} {
		for k := range line {
			for b := range 256 {
				s := []byte(line)
				s[k] = byte(b)
				wantGet(t, string(s))
				wantGet(t, line[:k]+string([]byte{byte(b)})+line[k:])
			}
		}
	}
}

func TestEachShortText(t *testing.T) {
	texts, lines := []string{""}, 0
	for range 8 {
		var longer []string
		for _, s := range texts {
			for _, b := range []string{"0", "1", "/", "\t", "\n"} {
				longer = append(longer, s+b)
			}
		}
		texts = longer
		for _, s := range texts {
			wantGet(t, s)
			if _, ok := read(s); ok {
				lines++
			}
		}
	}
	if lines < 100 {
		t.Errorf("only %d of them are lines", lines)
	}
}

// Records that differ have lines that differ, though each field tries to look like the next one.
func TestOneLineTellsOneRecord(t *testing.T) {
	seen := map[string]api.Record{}
	for _, out := range []string{"1", "11", "a", "a1", "1/1"} {
		for _, time := range []int{1, 11, 111, 1111} {
			for _, sign := range []string{"1", "11", "1 1", " 1", "1 ", "a"} {
				r := api.Record{Out: out, Time: time, Sign: sign}
				line, e := Put(r)
				if other, is := seen[line]; is || e != api.OK {
					t.Fatalf("P13.1: %v, %v: %q, %d", r, other, line, e)
				}
				seen[line] = r
				wantLine(t, r, line)
			}
		}
	}
}

func TestGreatTexts(t *testing.T) {
	for _, b := range []string{"a", "1", "\t", "\n", "\xff", "a\t1\ts\n"} {
		great := strings.Repeat(b, 1<<20)
		wantNoGet(t, great)
		wantNoGet(t, great+"\t1\ts\n")
		wantNoGet(t, "a\t"+great+"\ts\n")
		wantNoGet(t, "a\t1\t"+great+"\n")
		wantNoGet(t, "a\t1\ts\n"+great)
		wantNoPut(t, api.Record{Out: great, Time: 1, Sign: "s"})
		wantNoPut(t, api.Record{Out: "a", Time: 1, Sign: great})
	}
}

// within: does the part lie in the memory of all?
func within(all, part string) bool {
	first, at := uintptr(unsafe.Pointer(unsafe.StringData(all))), uintptr(unsafe.Pointer(unsafe.StringData(part)))
	return first <= at && at < first+uintptr(len(all))
}

func TestAnswersAreNewMemory(t *testing.T) {
	// The record's texts are parts of one that its line could be a part of, too.
	line := strings.Clone("a/b\t1\tsign\n")
	r := api.Record{Out: line[:3], Time: 1, Sign: line[6:10]}
	one, _ := Put(r)
	two, _ := Put(r)
	if one != line || within(line, one) || within(one, two) {
		t.Errorf("R4: %q, %q: an answer shares memory", one, two)
	}
	first, _ := Get(line)
	second, _ := Get(line)
	if first != r || second != r {
		t.Fatalf("P13.1: %v, %v", first, second)
	}
	for _, pair := range [][2]string{{line, first.Out}, {line, first.Sign}, {first.Out, second.Out}, {first.Sign, second.Sign}, {first.Out, first.Sign}} {
		if within(pair[0], pair[1]) {
			t.Errorf("R4: %q is a part of %q", pair[1], pair[0])
		}
	}
}

func TestFromSeveralGoroutines(t *testing.T) {
	var all sync.WaitGroup
	for range 8 {
		all.Go(func() {
			for range 100 {
				wantLine(t, api.Record{Out: "a/b", Time: 12, Sign: "a b"}, "a/b\t12\ta b\n")
				wantNoPut(t, api.Record{Out: "a/", Time: 12, Sign: "s"})
				wantNoGet(t, "a\t012\ts\n")
			}
		})
	}
	all.Wait()
}
