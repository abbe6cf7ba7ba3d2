package words

import (
	"regexp"
	"slices"
	"strings"
	"sync"
	"testing"
	"unsafe"

	"crucible/api"
)

// allowed is written out byte by byte, so that a slip in the layer ahead shows here too.
const allowed = "abcdefghijklmnopqrstuvwxyz0123456789._-/"

// line is what Build tells of a text.
type line struct {
	outs     []string
	rule     string
	ins      []string
	implicit []string
	order    []string
}

func (l line) lists() [][]string { return [][]string{l.outs, l.ins, l.implicit, l.order} }

func (l line) same(m line) bool {
	return l.rule == m.rule && slices.EqualFunc(l.lists(), m.lists(), slices.Equal[[]string])
}

func built(s string) (line, api.Errno) {
	outs, rule, ins, implicit, order, e := Build(s)
	return line{outs, rule, ins, implicit, order}, e
}

// lineOf is a line whose lists are told by texts.
func lineOf(outs, rule, ins, implicit, order string) line {
	return line{strings.Fields(outs), rule, strings.Fields(ins), strings.Fields(implicit), strings.Fields(order)}
}

func wantLine(t *testing.T, s string, want line) {
	t.Helper()
	if got, e := built(s); !got.same(want) || e != api.OK {
		t.Errorf("P7.1: %.200q: %v, %d; want %v", s, got, e, want)
	}
}

func wantNone(t *testing.T, s string) {
	t.Helper()
	if got, e := built(s); !got.same(line{}) || e != api.ErrWordsForm {
		t.Errorf("P7.1: %.200q: %v, %d; want ErrWordsForm", s, got, e)
	}
}

func TestOrdinaryLines(t *testing.T) {
	wantLine(t, "a : r", lineOf("a", "r", "", "", ""))
	wantLine(t, "a.o : cc a.c", lineOf("a.o", "cc", "a.c", "", ""))
	wantLine(t, "a b : r c d", lineOf("a b", "r", "c d", "", ""))
	wantLine(t, "a : r b | c", lineOf("a", "r", "b", "c", ""))
	wantLine(t, "a : r b || c", lineOf("a", "r", "b", "", "c"))
	wantLine(t, "a : r b | c d || e f", lineOf("a", "r", "b", "c d", "e f"))
	wantLine(t, "a : r | b", lineOf("a", "r", "", "b", ""))
	wantLine(t, "a : r || b", lineOf("a", "r", "", "", "b"))
	wantLine(t, "a : r | b || c", lineOf("a", "r", "", "b", "c"))
}

// Names are told as they stand: neither cleaned, nor sorted, nor held against each other; words of a manifest are names too.
func TestNamesAsTheyStand(t *testing.T) {
	wantLine(t, "b a b : a b a b | b b || a a b", lineOf("b a b", "a", "b a b", "b b", "a a b"))
	wantLine(t, "./a//b : x/.. .. | /c || .", lineOf("./a//b", "x/..", "..", "/c", "."))
	wantLine(t, "build rule : pool default", lineOf("build rule", "pool", "default", "", ""))
	wantLine(t, "- : _ 0", lineOf("-", "_", "0", "", ""))
}

func TestBlanks(t *testing.T) {
	want := lineOf("a b", "r", "c", "d", "e f")
	row := strings.Fields("a b : r c | d || e f")
	for ahead := range 4 {
		for between := 1; between < 5; between++ {
			for behind := range 4 {
				s := strings.Repeat(" ", ahead) + strings.Join(row, strings.Repeat(" ", between)) + strings.Repeat(" ", behind)
				wantLine(t, s, want)
			}
		}
	}
	many := strings.Repeat(" ", 1<<20)
	wantLine(t, many+"a"+many+":"+many+"r"+many, lineOf("a", "r", "", "", ""))
	wantNone(t, many)
}

// Without a blank between them two words are one, which is neither a name nor a sign.
func TestNoBlankBetween(t *testing.T) {
	row := strings.Fields("a b : r c | d || e f")
	for i := 1; i < len(row); i++ {
		s := strings.Join(row[:i], " ") + row[i] + " " + strings.Join(row[i+1:], " ")
		if !strings.ContainsAny(row[i-1]+row[i], ":|") {
			continue
		}
		wantNone(t, s)
	}
	for _, s := range []string{"a:r", "a: r", "a :r", "a :: r", "a : r |b", "a : r b| c", "a : r ||b", "a : r | | b", "a : r ||| b", "a : r | |b"} {
		wantNone(t, s)
	}
}

func TestWhatIsMissing(t *testing.T) {
	for _, s := range []string{
		"", " ", ":", "|", "||", "a", "a b", "a :", "a b :", ": r", ": r a", ": :", "a : :", "a : : r", "a r",
		"a : |", "a : ||", "a : | b", "a : || b", "a : r |", "a : r ||", "a : r b |", "a : r b ||",
		"a : r | ||", "a : r | || b", "a : r | b ||", "a : r || |", "a : r | b || |",
	} {
		wantNone(t, s)
	}
}

func TestSignsWhereTheyMayNotStand(t *testing.T) {
	for _, s := range []string{
		"a : r || b | c", "a : r | b | c", "a : r || b || c", "a : r | b || c | d", "a : r | b || c || d", "a : r | b | c || d",
		"a : r :", "a : r b : c", "a : r | b : c", "a : r || b : c", "a : r | : b", "a : r || : b", "a : r a : r",
		"a | b : r", "a || b : r", "| a : r", "|| a : r", ": a : r", "a : | r", "a : r ::", "a : r | b |||",
	} {
		wantNone(t, s)
	}
}

// numbered is so many words, each with a blank ahead of it.
func numbered(n int) string { return strings.Repeat(" x", n) }

func TestNumbersOfNames(t *testing.T) {
	for n := range 3 * api.MaxList {
		list := numbered(n)
		most, least := n <= api.MaxList, n >= 1
		for _, c := range []struct {
			s    string
			may  bool
			want line
		}{
			{list + " : r", most && least, lineOf(list, "r", "", "", "")},
			{list + " : r a | b || c", most && least, lineOf(list, "r", "a", "b", "c")},
			{"a : r" + list, most, lineOf("a", "r", list, "", "")},
			{"a : r" + list + " | b", most, lineOf("a", "r", list, "b", "")},
			{"a : r" + list + " || b", most, lineOf("a", "r", list, "", "b")},
			{"a : r |" + list, most && least, lineOf("a", "r", "", list, "")},
			{"a : r |" + list + " || b", most && least, lineOf("a", "r", "", list, "b")},
			{"a : r ||" + list, most && least, lineOf("a", "r", "", "", list)},
			{"a : r b | c ||" + list, most && least, lineOf("a", "r", "b", "c", list)},
			{list + " : r" + list + " |" + list + " ||" + list, most && least, lineOf(list, "r", list, list, list)},
		} {
			if c.may {
				wantLine(t, c.s, c.want)
			} else {
				wantNone(t, c.s)
			}
		}
	}
	for _, n := range []int{256, 256 + 1, 256 + api.MaxList, 1 << 16, 1<<16 + 1, 1 << 22} {
		for _, s := range []string{numbered(n) + " : r", "a : r" + numbered(n), "a : r |" + numbered(n), "a : r ||" + numbered(n)} {
			wantNone(t, s)
		}
	}
}

func TestLengthsOfNames(t *testing.T) {
	for n := 1; n < 3*api.MaxName; n++ {
		x := strings.Repeat("n", n)
		for _, c := range []struct {
			s    string
			want line
		}{
			{x + " : r", lineOf(x, "r", "", "", "")},
			{"a : " + x, lineOf("a", x, "", "", "")},
			{"a : r " + x, lineOf("a", "r", x, "", "")},
			{"a : r | " + x, lineOf("a", "r", "", x, "")},
			{"a : r || " + x, lineOf("a", "r", "", "", x)},
		} {
			if n <= api.MaxName {
				wantLine(t, c.s, c.want)
			} else {
				wantNone(t, c.s)
			}
		}
	}
	wantNone(t, strings.Repeat("n", 1<<24))
	wantNone(t, "a : r "+strings.Repeat("|", 1<<24))
}

// The greatest line is longer than any limit of a single name, and no bound is set on the text itself.
func TestGreatestLine(t *testing.T) {
	x := strings.Repeat("n", api.MaxName)
	list := strings.Repeat(x+" ", api.MaxList)
	wantLine(t, list+": "+x+" "+list+"| "+list+"|| "+list, lineOf(list, x, list, list, list))
	wide := strings.Repeat(" ", api.MaxText)
	wantLine(t, "a"+wide+":"+wide+"r"+wide+"b", lineOf("a", "r", "b", "", ""))
}

func TestEachByte(t *testing.T) {
	for b := range 256 {
		one := string([]byte{byte(b)})
		switch {
		case one == " ":
			wantLine(t, one+"a"+one+":"+one+"r"+one+"b"+one, lineOf("a", "r", "b", "", ""))
		case strings.Contains(allowed, one):
			wantLine(t, one+" : "+one+" "+one+" | "+one+" || "+one, lineOf(one, one, one, one, one))
			wantLine(t, "a"+one+"b : r", lineOf("a"+one+"b", "r", "", "", ""))
		default:
			wantNone(t, "a"+one+": r")
			wantNone(t, "a :"+one+"r")
			for _, word := range []string{"x" + one, one + "x", "x" + one + "y", one + one + one} {
				wantNone(t, word+" : r")
				wantNone(t, "a : "+word)
				wantNone(t, "a : r "+word)
				wantNone(t, "a : r b | "+word)
				wantNone(t, "a : r b || "+word)
				wantNone(t, "a : r b | c || d "+word)
			}
		}
	}
	for _, s := range []string{"a\t: r", "a : r\n", "a :\u00a0r", "a : r\u2003b", "é : r", "a : r \xff", "a : r\x00", "a : r \x00", "A : r", "a : $r", "a : r $a", "a : r b$ c"} {
		wantNone(t, s)
	}
}

// form tells the whole of the form once more, as a pattern of words with a blank behind each.
var form = regexp.MustCompile(`^((?:[ab] ){1,8}): ([ab]) ((?:[ab] ){0,8})(?:\| ((?:[ab] ){1,8}))?(?:\|\| ((?:[ab] ){1,8}))?$`)

func TestEachShortRow(t *testing.T) {
	rows := []string{""}
	for range 7 {
		var longer []string
		for _, s := range rows {
			for _, word := range []string{"a", "b", ":", "|", "||", "A"} {
				longer = append(longer, s+word+" ")
			}
		}
		rows = longer
		for _, s := range rows {
			if m := form.FindStringSubmatch(s); m != nil {
				wantLine(t, s, lineOf(m[1], m[2], m[3], m[4], m[5]))
			} else {
				wantNone(t, s)
			}
		}
	}
}

func within(inside, all string) bool {
	first, at := uintptr(unsafe.Pointer(unsafe.StringData(all))), uintptr(unsafe.Pointer(unsafe.StringData(inside)))
	return len(inside) > 0 && first <= at && at < first+uintptr(len(all))
}

func TestAnswerIsNewMemory(t *testing.T) {
	s := "first second : rule third | fourth || fifth sixth"
	got, e := built(s)
	again, f := built(s)
	if e != api.OK || f != api.OK || !got.same(again) {
		t.Fatalf("P7.1: %q: %v, %d; %v, %d", s, got, e, again, f)
	}
	words := append(slices.Concat(got.lists()...), got.rule)
	others := append(slices.Concat(again.lists()...), again.rule)
	for i, word := range words {
		if within(word, s) || within(word, others[i]) {
			t.Errorf("R4: %q: %q shares memory", s, word)
		}
	}
	for _, list := range got.lists() {
		for _, more := range []int{0, 1, 8} {
			_ = append(list, slices.Repeat([]string{"one more"}, more)...)
		}
		list[0] = "turned"
	}
	if !again.same(lineOf("first second", "rule", "third", "fourth", "fifth sixth")) {
		t.Error("R4: two answers share memory")
	}
	if !got.same(lineOf("turned second", "rule", "turned", "turned", "turned sixth")) {
		t.Error("R4: two lists of one answer share memory")
	}
}

func TestFromSeveralGoroutines(t *testing.T) {
	var all sync.WaitGroup
	for range 8 {
		all.Go(func() {
			for range 200 {
				wantLine(t, "a b : r c | d || e", lineOf("a b", "r", "c", "d", "e"))
				wantNone(t, "a b : r c | d || e |")
			}
		})
	}
	all.Wait()
}
