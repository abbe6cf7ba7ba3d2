package log

import (
	"regexp"
	"slices"
	"strconv"
	"strings"
	"sync"
	"testing"
	"unsafe"

	"crucible/api"
)

// A log's lines are told here by a pattern of their own.
var (
	head = regexp.MustCompile(`^([a-z0-9._-]+(?:/[a-z0-9._-]+)*)\t([1-9][0-9]{0,6})\t([ -~]+)\n`)
	dots = regexp.MustCompile(`(^|/)\.\.?(/|$)`)
)

// read is what is whole at the front of the text.
func read(s string) []api.Record {
	var rs []api.Record
	for len(rs) < 256 {
		found := head.FindStringSubmatch(s)
		if found == nil || len(found[1]) > 16 || dots.MatchString(found[1]) || len(found[3]) > 2048 {
			break
		}
		time, err := strconv.Atoi(found[2])
		if err != nil || time > 1048576 {
			break
		}
		rs = append(rs, api.Record{Out: found[1], Time: time, Sign: found[3]})
		s = s[len(found[0]):]
	}
	return rs
}

// lined is a record's line.
func lined(r api.Record) string {
	return strings.Join([]string{r.Out, strconv.Itoa(r.Time), r.Sign}, "\t") + "\n"
}

// text is the lines of all of them.
func text(rs []api.Record) string {
	all := ""
	for _, r := range rs {
		all += lined(r)
	}
	return all
}

// rec is a record that may be, if out may.
func rec(out string, time int) api.Record {
	return api.Record{Out: out, Time: time, Sign: out + "|x||n|cc"}
}

// row is a log of so many records, of so many outputs.
func row(n, outs int) []api.Record {
	var rs []api.Record
	for i := range n {
		rs = append(rs, rec("o"+strconv.Itoa(i%outs), i+1))
	}
	return rs
}

// wrong are records that may not be.
func wrong() []api.Record {
	rs := []api.Record{{}, {Out: "a", Time: 1}, {Out: "a", Sign: "s"}, {Time: 1, Sign: "s"}}
	for _, out := range []string{"/a", "a/", "a//b", "./a", "a/..", "..", ".", "A", "a b", "a\t", "a\n", "\x00", "\xff", strings.Repeat("a", 17)} {
		rs = append(rs, api.Record{Out: out, Time: 1, Sign: "s"})
	}
	for _, time := range []int{0, -1, 1048577, 1 << 32, 1<<63 - 1, -1 << 63} {
		rs = append(rs, api.Record{Out: "a", Time: time, Sign: "s"})
	}
	for _, sign := range []string{"\t", "s\n", "\x1f", "\x7f", "s\x80", "\xff", strings.Repeat("s", 2049)} {
		rs = append(rs, api.Record{Out: "a", Time: 1, Sign: sign})
	}
	return rs
}

// wantLog holds the calls of P14.1 against a log that may be.
func wantLog(t *testing.T, rs []api.Record) {
	t.Helper()
	want := text(rs)
	if !May(rs) {
		t.Errorf("P14.1: May(%v): false", rs)
	}
	if got, e := Text(rs); got != want || e != api.OK {
		t.Errorf("P14.1: Text(%v): %q, %d; want %q", rs, got, e, want)
	}
	if got := Load(want); !slices.Equal(got, rs) {
		t.Errorf("P14.1: Load(%q): %v; want %v", want, got, rs)
	}
}

// wantNoLog holds all calls against records that may be no log.
func wantNoLog(t *testing.T, rs []api.Record) {
	t.Helper()
	if May(rs) {
		t.Errorf("P14.1: May of %d records: true: %v", len(rs), rs)
	}
	if got, e := Text(rs); got != "" || e != api.ErrLogForm {
		t.Errorf("P14.1: Text of %d records: %q, %d; want ErrLogForm: %v", len(rs), got, e, rs)
	}
	if got, e := Compact(rs); len(got) != 0 || e != api.ErrLogForm {
		t.Errorf("P14.2: Compact of %d records: %v, %d; want ErrLogForm: %v", len(rs), got, e, rs)
	}
	for _, r := range rs {
		if got, is := Last(rs, r.Out); is || got != (api.Record{}) {
			t.Errorf("P14.2: Last of %d records, %q: %v, %v; want none: %v", len(rs), r.Out, got, is, rs)
		}
	}
}

// wantLoad holds Load against what the patterns read.
func wantLoad(t *testing.T, s string) {
	t.Helper()
	if got, want := Load(s), read(s); !slices.Equal(got, want) {
		t.Errorf("P14.1: Load(%q): %v; want %v", s, got, want)
	}
}

// wantLasts holds the calls of P14.2 against a log that may be, and the lasts of it.
func wantLasts(t *testing.T, rs []api.Record, want ...api.Record) {
	t.Helper()
	got, e := Compact(rs)
	if !slices.Equal(got, want) || e != api.OK {
		t.Errorf("P14.2: Compact(%v): %v, %d; want %v", rs, got, e, want)
	}
	if again, e := Compact(want); !slices.Equal(again, want) || e != api.OK {
		t.Errorf("P14.2: Compact(%v): %v, %d; want the same", want, again, e)
	}
	for _, r := range want {
		for _, log := range [][]api.Record{rs, want} {
			if got, is := Last(log, r.Out); !is || got != r {
				t.Errorf("P14.2: Last(%v, %q): %v, %v; want %v", log, r.Out, got, is, r)
			}
		}
	}
	for _, out := range []string{"", "none", "o", "A", "a/", "./a", " a", "a ", "a\n", "\xff", strings.Repeat("a", 1<<16)} {
		if got, is := Last(rs, out); is || got != (api.Record{}) {
			t.Errorf("P14.2: Last(%v, %q): %v, %v; want none", rs, out, got, is)
		}
	}
}

func TestLogs(t *testing.T) {
	wantLog(t, nil)
	wantLog(t, []api.Record{})
	wantLog(t, []api.Record{{Out: "a", Time: 1, Sign: "s"}})
	wantLog(t, []api.Record{{Out: "src/main.o", Time: 1048576, Sign: "src/main.o|a b||d|cc | a"}, {Out: "b", Time: 10, Sign: " "}})
	// Neither do times rise, nor does an output stand once.
	wantLog(t, []api.Record{rec("b", 9), rec("a", 9), rec("b", 9), rec("b", 2)})
	wantLog(t, []api.Record{{Out: "a/b", Time: 7, Sign: strings.Repeat("~", 2048)}, {Out: strings.Repeat("o", 16), Time: 1048576, Sign: "s"}})
}

func TestText(t *testing.T) {
	got, e := Text([]api.Record{{Out: "a.o", Time: 7, Sign: "a.o|a.c||n|cc a.c"}, {Out: "b", Time: 1048576, Sign: " "}})
	if want := "a.o\t7\ta.o|a.c||n|cc a.c\nb\t1048576\t \n"; got != want || e != api.OK {
		t.Errorf("P14.1: Text: %q, %d; want %q", got, e, want)
	}
}

func TestNumbersOfRecords(t *testing.T) {
	for n := range 2 * api.MaxRecords {
		rs := row(n, 300)
		if n <= 256 {
			wantLog(t, rs)
			wantLasts(t, rs, rs...)
			continue
		}
		wantNoLog(t, rs)
		if got := Load(text(rs)); !slices.Equal(got, rs[:256]) {
			t.Errorf("P14.1: Load of %d lines: %d", n, len(got))
		}
	}
	wantNoLog(t, make([]api.Record, 1<<16))
	if many := slices.Repeat([]api.Record{rec("a", 1)}, 1<<20); May(many) {
		t.Error("P14.1: May of 1048576 records: true")
	}
}

func TestGreatestLog(t *testing.T) {
	great := api.Record{Out: strings.Repeat("o", api.MaxName), Time: api.MaxTime, Sign: strings.Repeat("~", api.MaxText)}
	rs := slices.Repeat([]api.Record{great}, api.MaxRecords)
	wantLog(t, rs)
	wantLasts(t, rs, great)
	wantNoLog(t, append(rs, great))
	if got := Load(text(rs) + lined(great)); !slices.Equal(got, rs) {
		t.Errorf("P14.1: Load: %d", len(got))
	}
}

// One that may not be is enough, wherever it stands.
func TestNoLogs(t *testing.T) {
	for _, bad := range wrong() {
		wantNoLog(t, []api.Record{bad})
		for at := range 5 {
			wantNoLog(t, slices.Insert([]api.Record{rec("a", 1), rec("b", 2), rec("a", 3), rec("c", 4)}, at, bad))
		}
		full := row(256, 300)
		for _, at := range []int{0, 100, 255} {
			rs := slices.Clone(full)
			rs[at] = bad
			wantNoLog(t, rs)
		}
	}
}

func TestLoadEndsAtTheFirstThatIsNone(t *testing.T) {
	rs := row(4, 3)
	for _, bad := range []string{"\n", "a\n", "\t\t\n", "a\t1\t\n", "a\t\ts\n", "\t1\ts\n", "a\t0\ts\n", "a\t01\ts\n", "a\t+1\ts\n", "a\t1048577\ts\n", "a/\t1\ts\n", "A\t1\ts\n", "a\t1\ts\t\n", "a\t1\ts\r\n", " a\t1\ts\n", "a 1 s\n", "a\tx\ts\n", "\x00", "\xff\n", "a\t1\t" + strings.Repeat("s", 2049) + "\n"} {
		for at := range len(rs) + 1 {
			s := text(rs[:at]) + bad + text(rs[at:])
			if got := Load(s); !slices.Equal(got, rs[:at]) {
				t.Errorf("P14.1: Load(%q): %v; want %v", s, got, rs[:at])
			}
		}
	}
}

// What is behind the last that is loaded is not asked.
func TestLoadEndsAtTheMost(t *testing.T) {
	rs := row(256, 300)
	for _, rest := range []string{"", "a", "\n", "a\t0\ts\n", "a\t1\ts", "a\t1\ts\n", strings.Repeat("a\t1\ts\n", 1<<16)} {
		if got := Load(text(rs) + rest); !slices.Equal(got, rs) {
			t.Errorf("P14.1: Load with %d bytes behind: %d", len(rest), len(got))
		}
	}
	for _, rest := range []string{"", "a", "\n", "a\t0\ts\n", "a\t1\ts"} {
		if got := Load(text(rs[:255]) + rest); !slices.Equal(got, rs[:255]) {
			t.Errorf("P14.1: Load of 255 with %q behind: %d", rest, len(got))
		}
	}
}

func TestLoadOfEachRowOfParts(t *testing.T) {
	texts, loaded := []string{""}, 0
	for range 6 {
		var longer []string
		for _, s := range texts {
			for _, part := range []string{"a", "\t1", "\t1\ts\n", "a/b\t20\t a\n", "0", "\n"} {
				longer = append(longer, s+part)
			}
		}
		texts = longer
		for _, s := range texts {
			wantLoad(t, s)
			loaded += len(Load(s))
		}
	}
	if loaded < 1000 {
		t.Errorf("only %d records are loaded", loaded)
	}
}

// Each byte of a text is each other one, or is left out, or stands there once more.
func TestLoadOfEachText(t *testing.T) {
	all := text([]api.Record{rec("a", 1), rec("b/c", 1048576), rec("a", 30)})
	for k := range all {
		wantLoad(t, all[:k]+all[k+1:])
		for b := range 256 {
			one := string([]byte{byte(b)})
			wantLoad(t, all[:k]+one+all[k+1:])
			wantLoad(t, all[:k]+one+all[k:])
		}
	}
}

// wantCuts holds Load against each cut of the log's text: what ends ahead of the cut is whole.
func wantCuts(t *testing.T, rs []api.Record) {
	t.Helper()
	all := text(rs)
	whole, end := 0, 0
	for k := range len(all) + 1 {
		for whole < len(rs) && end+len(lined(rs[whole])) <= k {
			end += len(lined(rs[whole]))
			whole++
		}
		if got := Load(all[:k]); !slices.Equal(got, rs[:whole]) {
			t.Errorf("P14.3: Load(%q): %v; want %v", all[:k], got, rs[:whole])
		}
	}
	if whole != len(rs) {
		t.Errorf("P14.3: only %d of %d are whole", whole, len(rs))
	}
}

func TestEachCut(t *testing.T) {
	wantCuts(t, nil)
	wantCuts(t, []api.Record{{Out: "a", Time: 1, Sign: "s"}})
	wantCuts(t, []api.Record{rec("a", 1), rec("b/c", 1048576), rec("a", 30), {Out: "d", Time: 4, Sign: " 1 "}})
	wantCuts(t, []api.Record{{Out: "1", Time: 11, Sign: "1"}, {Out: "11", Time: 1, Sign: "11"}, {Out: "1", Time: 1, Sign: `\n`}})
	wantCuts(t, []api.Record{rec("a", 1), {Out: strings.Repeat("o", 16), Time: 1048576, Sign: strings.Repeat("~", 2048)}, rec("a", 2)})
	wantCuts(t, row(256, 300))
}

func TestLasts(t *testing.T) {
	wantLasts(t, nil)
	wantLasts(t, []api.Record{})
	wantLasts(t, []api.Record{rec("a", 5)}, rec("a", 5))
	wantLasts(t, []api.Record{rec("a", 5), rec("b", 4)}, rec("a", 5), rec("b", 4))
	wantLasts(t, []api.Record{rec("b", 5), rec("a", 4)}, rec("b", 5), rec("a", 4))
	// The last one is not the one of the greatest time.
	wantLasts(t, []api.Record{rec("a", 5), rec("a", 4)}, rec("a", 4))
	wantLasts(t, []api.Record{rec("a", 5), rec("b", 4), rec("a", 3)}, rec("b", 4), rec("a", 3))
	wantLasts(t, []api.Record{rec("a", 1), rec("b", 2), rec("b", 3), rec("c", 4), rec("a", 5), rec("c", 4)}, rec("b", 3), rec("a", 5), rec("c", 4))
	wantLasts(t, []api.Record{rec("a", 1), {Out: "a", Time: 1, Sign: "s"}}, api.Record{Out: "a", Time: 1, Sign: "s"})
	wantLasts(t, []api.Record{rec("a", 1), rec("a", 1), rec("a/b", 1), rec("a.b", 1), rec("ab", 1)}, rec("a", 1), rec("a/b", 1), rec("a.b", 1), rec("ab", 1))
	wantLasts(t, row(256, 1), rec("o0", 256))
	wantLasts(t, row(256, 250), row(256, 250)[6:]...)
}

// lasts are told here from the back: what is not seen yet is a last one.
func lasts(rs []api.Record) []api.Record {
	seen := map[string]bool{}
	var from []api.Record
	for i := len(rs) - 1; i >= 0; i-- {
		if !seen[rs[i].Out] {
			from = append(from, rs[i])
		}
		seen[rs[i].Out] = true
	}
	slices.Reverse(from)
	return from
}

func TestLastsOfEachRow(t *testing.T) {
	logs := [][]api.Record{nil}
	for n := range 6 {
		var longer [][]api.Record
		for _, rs := range logs {
			for _, out := range []string{"a", "b", "c/d", "e"} {
				longer = append(longer, append(slices.Clone(rs), rec(out, 9-n)))
			}
		}
		logs = longer
		for _, rs := range logs {
			wantLasts(t, rs, lasts(rs)...)
		}
	}
}

// unturned holds that a call turns neither the records nor the room behind them.
func unturned(t *testing.T, call string, do func(rs []api.Record)) {
	t.Helper()
	for _, n := range []int{0, 1, 4, 9} {
		rs := row(9, 3)
		do(rs[:n])
		if !slices.Equal(rs, row(9, 3)) {
			t.Errorf("R4: %s of %d turns them: %v", call, n, rs)
		}
	}
}

func TestArgumentsStay(t *testing.T) {
	unturned(t, "May", func(rs []api.Record) { May(rs) })
	unturned(t, "Text", func(rs []api.Record) { Text(rs) })
	unturned(t, "Last", func(rs []api.Record) { Last(rs, "o1") })
	unturned(t, "Compact", func(rs []api.Record) { Compact(rs) })
}

// within: does the part lie in the memory of all?
func within(all, part string) bool {
	first, at := uintptr(unsafe.Pointer(unsafe.StringData(all))), uintptr(unsafe.Pointer(unsafe.StringData(part)))
	return first <= at && at < first+uintptr(len(all))
}

// apart holds that no text of the one answer lies in one of the other.
func apart(t *testing.T, call string, some, others []api.Record) {
	t.Helper()
	for _, r := range some {
		for _, other := range others {
			for _, part := range []string{other.Out, other.Sign} {
				if within(r.Out, part) || within(r.Sign, part) {
					t.Errorf("R4: %s: %q is shared", call, part)
				}
			}
		}
	}
}

func TestAnswersAreNewMemory(t *testing.T) {
	rs := row(5, 3)
	all, _ := Text(rs)
	again, _ := Text(rs)
	if within(all, again) {
		t.Error("R4: Text: two answers share memory")
	}
	one, two := Load(all), Load(all)
	for _, r := range one {
		if within(all, r.Out) || within(all, r.Sign) {
			t.Errorf("R4: Load: %v is a part of the text", r)
		}
	}
	apart(t, "Load", one, two)
	first, _ := Compact(rs)
	second, _ := Compact(rs)
	apart(t, "Compact", rs, first)
	apart(t, "Compact", first, second)
	last, _ := Last(rs, "o1")
	other, _ := Last(rs, "o1")
	apart(t, "Last", rs, []api.Record{last})
	apart(t, "Last", []api.Record{last}, []api.Record{other})
	first[0] = api.Record{}
	one[0] = api.Record{}
	if !slices.Equal(rs, row(5, 3)) || second[0] == first[0] || two[0] == one[0] {
		t.Error("R4: a list is shared")
	}
}

func TestGreatTexts(t *testing.T) {
	for _, part := range []string{"a", "1", "\t", "\n", "\xff", "a\t1", "a\t1\ts\n"} {
		great := strings.Repeat(part, 1<<20)
		wantLoad(t, great)
		wantLoad(t, "a\t1\ts\n"+great)
		wantLoad(t, "a\t1\ts\n"+great+"\t1\ts\n")
	}
}

func TestFromSeveralGoroutines(t *testing.T) {
	rs := row(9, 3)
	var all sync.WaitGroup
	for range 8 {
		all.Go(func() {
			for range 50 {
				wantLog(t, rs)
				wantLasts(t, rs, rs[6:]...)
				wantNoLog(t, append(rs[:3:3], api.Record{}))
			}
		})
	}
	all.Wait()
}
