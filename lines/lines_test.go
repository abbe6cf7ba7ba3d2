package lines

import (
	"regexp"
	"slices"
	"strings"
	"sync"
	"testing"
	"unsafe"

	"crucible/api"
)

func flat(s string) api.Line { return api.Line{Text: s} }

func deep(s string) api.Line { return api.Line{Deep: true, Text: s} }

func wantLines(t *testing.T, s string, want ...api.Line) {
	t.Helper()
	if got, e := Cut(s); !slices.Equal(got, want) || e != api.OK {
		t.Errorf("P6.1: %q: %v, %d; want %v", s, got, e, want)
	}
}

func wantNone(t *testing.T, s string) {
	t.Helper()
	if got, e := Cut(s); len(got) != 0 || e != api.ErrLinesForm {
		t.Errorf("P6.1: %q: %v, %d; want ErrLinesForm", s, got, e)
	}
}

func TestOrdinaryLines(t *testing.T) {
	wantLines(t, "a\n", flat("a"))
	wantLines(t, "a\nb\n", flat("a"), flat("b"))
	wantLines(t, "a\na\n", flat("a"), flat("a"))
	wantLines(t, "cc = gcc -O2\nrule c\n  command = $cc -o $out $in\nbuild a.o : c a.c\n",
		flat("cc = gcc -O2"), flat("rule c"), deep("command = $cc -o $out $in"), flat("build a.o : c a.c"))
}

func TestDeepAndBlanks(t *testing.T) {
	wantLines(t, " a\n", deep("a"))
	wantLines(t, "    a\n", deep("a"))
	wantLines(t, "a \n", flat("a"))
	wantLines(t, "   a   \n", deep("a"))
	wantLines(t, "a  b\n  a  b  \n", flat("a  b"), deep("a  b"))
	wantLines(t, "a $ \n", flat("a $"))
	wantLines(t, " $ \n", deep("$"))
}

func TestWhatIsLeftOut(t *testing.T) {
	for _, s := range []string{
		"", "\n", "\n\n\n", " \n", "   \n \n", "#\n", "# a\n", "  #\n", "  # a  \n", "##\n", "#$$\n", "\n#\n  \n # b\n",
		"$\n\n", "$\n \n", " $\n  \n", "$\n$\n\n", "# a$\nb\n", "# a$\n$\n  b\n", "$\n# a\n", " $\n  # a\n", "$\n $\n # a\n",
	} {
		wantLines(t, s)
		wantLines(t, "x\n"+s+" y\n", flat("x"), deep("y"))
	}
	wantLines(t, "a #\n", flat("a #"))
	wantLines(t, "a # b\n", flat("a # b"))
	wantLines(t, "$$#\n", flat("$$#"))
	wantLines(t, "a$\n# b\n", flat("a# b"))
	wantLines(t, "a $\n  # b\nc\n", flat("a # b"), flat("c"))
}

func TestLinesThatGoOn(t *testing.T) {
	wantLines(t, "a$\nb\n", flat("ab"))
	wantLines(t, "a $\nb\n", flat("a b"))
	wantLines(t, "a$\n   b\n", flat("ab"))
	wantLines(t, "a $\n   b  $\n c\nd\n", flat("a b  c"), flat("d"))
	wantLines(t, "a$\nb$\nc$\nd\n", flat("abcd"))
	wantLines(t, "a$\n$\n$\nb\n", flat("ab"))
	wantLines(t, "a$\n  $\n  b\n", flat("ab"))
	wantLines(t, "a$\n\nb\n", flat("a"), flat("b"))
	wantLines(t, "a  $\n    \nb\n", flat("a"), flat("b"))
	wantLines(t, "a$\nb  \nc\n", flat("ab"), flat("c"))
}

// Deep hangs on the line that was joined: on its own first blank, not on those of the lines behind it.
func TestDeepOfJoinedLines(t *testing.T) {
	wantLines(t, "$\n   a\n", flat("a"))
	wantLines(t, "$\n  $\n   a\n", flat("a"))
	wantLines(t, " $\na\n", deep("a"))
	wantLines(t, "  $\n  a\n", deep("a"))
	wantLines(t, " a$\nb\n", deep("ab"))
	wantLines(t, "a$\n b\n c\n", flat("ab"), deep("c"))
}

func TestNumbersOfSigns(t *testing.T) {
	for n := range 40 {
		signs := strings.Repeat("$", n)
		if n%2 == 0 {
			wantLines(t, "a"+signs+"\n b\n", flat("a"+signs), deep("b"))
			wantLines(t, "a$\n"+signs+"\n b\n", flat("a"+signs), deep("b"))
			wantLines(t, "a"+signs+"\n", flat("a"+signs))
			continue
		}
		wantLines(t, "a"+signs+"\n b\n", flat("a"+signs[1:]+"b"))
		wantLines(t, "a$\n"+signs+"\n b\n", flat("a"+signs[1:]+"b"))
		wantLines(t, "a"+signs+" \n b\n", flat("a"+signs), deep("b"))
		wantLines(t, "a"+signs+"\n $$\n b\n", flat("a"+signs[1:]+"$$"), deep("b"))
		wantLines(t, "a"+signs+"\n $$$\n b\n", flat("a"+signs+"$b"))
		wantNone(t, "a"+signs+"\n")
		wantNone(t, "a$\n"+signs+"\n")
	}
	wantLines(t, "$$\n", flat("$$"))
	wantLines(t, "$a$$b\n", flat("$a$$b"))
}

func TestNoNextLine(t *testing.T) {
	for _, s := range []string{"$\n", " $\n", "a$\n", "a$\n$\n", "a$\n  $\n", "a\nb$\n", "# $\n", "  #$\n", "\n\n$\n", "a$$$\n", "a$\nb$\nc$\n"} {
		wantNone(t, s)
		wantNone(t, "x\n y\n"+s)
	}
}

func TestNoEnd(t *testing.T) {
	for _, s := range []string{"a", " ", "#", "$", "$$", "a\nb", "a\n ", "a\n#", "a$\n ", "a$\nb", "\n\na"} {
		wantNone(t, s)
	}
}

func TestEachByte(t *testing.T) {
	for b := range 256 {
		one := string([]byte{byte(b)})
		switch {
		case one == "\n":
			wantLines(t, "a"+one+"c\n", flat("a"), flat("c"))
		case b < 32 || b > 126:
			for _, s := range []string{one, one + "\n", "a" + one + "\n", one + "a\n", "#" + one + "\n", "a\n" + one + "\n", "$" + one + "\na\n", "a\n" + one, "$\n" + one + "\n"} {
				wantNone(t, s)
			}
		default:
			wantLines(t, "a"+one+"c\n", flat("a"+one+"c"))
		}
	}
	for _, s := range []string{"a\r\n", "\ta\n", "é\n", "a\u00a0\n", "a\u2028b\n", "\xff\n"} {
		wantNone(t, s)
	}
}

// It is the text's own length that counts, not that of its lines.
func TestLengths(t *testing.T) {
	most := strings.Repeat("x", api.MaxText-1)
	wantLines(t, most+"\n", flat(most))
	wantNone(t, most+"x\n")
	wantNone(t, most+"\n\n")
	wantNone(t, most+"xx")
	wantLines(t, strings.Repeat("\n", api.MaxText))
	wantNone(t, strings.Repeat("\n", api.MaxText+1))
	wantNone(t, strings.Repeat(" ", api.MaxText)+"\n")
	wantLines(t, strings.Repeat("a\n", api.MaxText/2), slices.Repeat([]api.Line{flat("a")}, api.MaxText/2)...)
	wantNone(t, strings.Repeat("a\n", api.MaxText/2+1))
	wantLines(t, strings.Repeat("$\n", api.MaxText/2-1)+"a\n", flat("a"))
	wantNone(t, strings.Repeat("$\n", api.MaxText/2))
	wantNone(t, strings.Repeat("$\n", api.MaxText/2)+"a\n")
	wantNone(t, strings.Repeat("a\n", 1<<23))
}

// part tells once more, as a pattern, what a text is made of from the left: a pair of signs, a going on, any other byte.
var part = regexp.MustCompile(`(?s)\$\$|\$\n *|.`)

// whole is a line that is not left out: the blanks ahead of it, its text.
var whole = regexp.MustCompile(`^( *)([^ #].*?) *$`)

// lined are the lines of s by both patterns; false: there are none.
func lined(s string) ([]api.Line, bool) {
	parts := part.FindAllString(s, -1)
	if len(parts) > 0 && parts[len(parts)-1] != "\n" {
		return nil, false
	}
	joined := slices.DeleteFunc(parts, func(p string) bool { return strings.HasPrefix(p, "$\n") })
	var all []api.Line
	for _, row := range strings.Split(strings.Join(joined, ""), "\n") {
		if m := whole.FindStringSubmatch(row); m != nil {
			all = append(all, api.Line{Deep: m[1] != "", Text: m[2]})
		}
	}
	return all, true
}

func TestEachShortText(t *testing.T) {
	texts := []string{""}
	for len(texts[0]) < 7 {
		var longer []string
		for _, s := range texts {
			for _, b := range []string{"a", " ", "$", "#", "\n"} {
				longer = append(longer, s+b)
			}
		}
		texts = longer
		for _, s := range texts {
			if want, may := lined(s); may {
				wantLines(t, s, want...)
			} else {
				wantNone(t, s)
			}
		}
	}
}

func within(inside, all string) bool {
	first, at := uintptr(unsafe.Pointer(unsafe.StringData(all))), uintptr(unsafe.Pointer(unsafe.StringData(inside)))
	return len(inside) > 0 && first <= at && at < first+uintptr(len(all))
}

func TestAnswerIsNewMemory(t *testing.T) {
	s := "first line\n  second line\nthird $\n  line\n"
	got, e := Cut(s)
	again, f := Cut(s)
	if e != api.OK || f != api.OK || len(got) != 3 || !slices.Equal(got, again) {
		t.Fatalf("P6.1: %q: %v, %d; %v, %d", s, got, e, again, f)
	}
	for i := range got {
		if within(got[i].Text, s) || within(got[i].Text, again[i].Text) {
			t.Errorf("R4: %q: line %d shares memory", s, i)
		}
	}
	got[0] = deep("turned")
	if again[0] != flat("first line") {
		t.Error("R4: two answers share memory")
	}
}

func TestFromSeveralGoroutines(t *testing.T) {
	var all sync.WaitGroup
	for range 8 {
		all.Go(func() {
			for range 200 {
				wantLines(t, "a $\n  b\n c\n", flat("a b"), deep("c"))
				wantNone(t, "a $\n  b\n c$\n")
			}
		})
	}
	all.Wait()
}
