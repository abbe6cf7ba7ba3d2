package pieces

import (
	"regexp"
	"slices"
	"strings"
	"sync"
	"testing"
	"unsafe"

	"crucible/api"
)

// inNames is written out byte by byte, so that a slip in the program's ranges is not repeated here.
const inNames = "abcdefghijklmnopqrstuvwxyz0123456789_"

func text(s string) api.Piece { return api.Piece{Text: s} }

func variableOf(s string) api.Piece { return api.Piece{Var: true, Text: s} }

func wantPieces(t *testing.T, s string, want ...api.Piece) {
	t.Helper()
	if got, e := Cut(s); !slices.Equal(got, want) || e != api.OK {
		t.Errorf("P3.1: %q: %v, %d; want %v", s, got, e, want)
	}
}

func wantNone(t *testing.T, s string) {
	t.Helper()
	if got, e := Cut(s); len(got) != 0 || e != api.ErrPiecesForm {
		t.Errorf("P3.1: %q: %v, %d; want ErrPiecesForm", s, got, e)
	}
}

func TestTextAlone(t *testing.T) {
	wantPieces(t, "")
	for _, s := range []string{"a", " ", "  ", ":", "{", "}", "{a}", "cc -o a.out a.c", "A = B | C || D # e", "~", "a\\nb"} {
		wantPieces(t, s, text(s))
	}
}

func TestEscapes(t *testing.T) {
	wantPieces(t, "$$", text("$"))
	wantPieces(t, "$ ", text(" "))
	wantPieces(t, "$:", text(":"))
	wantPieces(t, "$$$$", text("$$"))
	wantPieces(t, "a$$b$ c$:d", text("a$b c:d"))
	wantPieces(t, "$$a", text("$a"))
	wantPieces(t, "$${a}", text("${a}"))
	wantPieces(t, "$$ a", text("$ a"))
	wantPieces(t, "$$$a", text("$"), variableOf("a"))
	wantPieces(t, "$$$$a", text("$$a"))
	wantPieces(t, "$ $a$:", text(" "), variableOf("a"), text(":"))
}

func TestVariables(t *testing.T) {
	wantPieces(t, "$a", variableOf("a"))
	wantPieces(t, "${a}", variableOf("a"))
	wantPieces(t, "$_", variableOf("_"))
	wantPieces(t, "$0", variableOf("0"))
	wantPieces(t, "$a$b${c}${d}", variableOf("a"), variableOf("b"), variableOf("c"), variableOf("d"))
	wantPieces(t, "$a$a", variableOf("a"), variableOf("a"))
	wantPieces(t, "$a}", variableOf("a"), text("}"))
	wantPieces(t, "${a}}", variableOf("a"), text("}"))
	wantPieces(t, "{$a}", text("{"), variableOf("a"), text("}"))
	wantPieces(t, "$a{b}", variableOf("a"), text("{b}"))
	wantPieces(t, "${a}b", variableOf("a"), text("b"))
	wantPieces(t, "$a_1b.c", variableOf("a_1b"), text(".c"))
	wantPieces(t, "$aB", variableOf("a"), text("B"))
	wantPieces(t, "$a-b/c", variableOf("a"), text("-b/c"))
	wantPieces(t, "cc -o $out $in", text("cc -o "), variableOf("out"), text(" "), variableOf("in"))
	wantPieces(t, "$a$$b$c", variableOf("a"), text("$b"), variableOf("c"))
}

func TestNoPieces(t *testing.T) {
	for _, s := range []string{
		"$", "a$", "$$$", "$a$", "$ $", "${a}$", "$$$$$",
		"${", "${}", "${a", "${a b}", "${a:}", "${ a}", "${a }", "${$a}", "${${a}}", "${{a}}", "${$$}", "${A}", "${a.b}", "${a-b}", "${a/b}", "${a$}",
		"$A", "$.", "$-", "$/", "$}", "$=", "$|", "$#", "$\\", "$\"", "$(a)", "$a $B",
		"\n", "a\n", "$\n", "$\na", "\t", "$\t", "\x00", "\x1f", "\x7f", "\x80", "\xff", "é", "$é", "${é}", "a\ufffd",
	} {
		wantNone(t, s)
	}
}

// A byte that may not be is found wherever it stands, a fault at the end refuses what was cut ahead of it.
func TestFaultBehindWhatIsWhole(t *testing.T) {
	whole := "a$$b$ c$:$d${e}f"
	wantPieces(t, whole, text("a$b c:"), variableOf("d"), variableOf("e"), text("f"))
	for _, fault := range []string{"$", "${", "${g", "$G", "\n", "\xff"} {
		wantNone(t, whole+fault)
		wantNone(t, strings.Repeat("x", api.MaxText-len(fault))+fault)
	}
	for _, fault := range []string{"$-", "${}", "${g ", "$G", "\n", "\xff"} {
		wantNone(t, fault+whole)
	}
}

func TestEachByte(t *testing.T) {
	for b := range 256 {
		one := string([]byte{byte(b)})
		if b < 32 || b > 126 {
			for _, s := range []string{one, "a" + one, one + "a", "$" + one, "$a" + one, "${" + one + "}", "${a}" + one} {
				wantNone(t, s)
			}
			continue
		}
		if one != "$" {
			wantPieces(t, "A"+one+"-", text("A"+one+"-"))
		}
		switch {
		case strings.Contains("$ :", one):
			wantPieces(t, "A$"+one+"-", text("A"+one+"-"))
			wantNone(t, "${"+one+"}")
		case strings.Contains(inNames, one):
			wantPieces(t, "A$"+one+"-", text("A"), variableOf(one), text("-"))
			wantPieces(t, "A${"+one+"}-", text("A"), variableOf(one), text("-"))
			wantPieces(t, "$x"+one, variableOf("x"+one))
			wantPieces(t, "${"+one+"x}", variableOf(one+"x"))
		case one == "{":
			wantNone(t, "A${-")
		default:
			wantNone(t, "A$"+one+"-")
		}
		if one != "$" && !strings.Contains(inNames, one) {
			wantPieces(t, "$x"+one, variableOf("x"), text(one))
		}
	}
}

func TestLengthsOfNames(t *testing.T) {
	for n := 1; n <= 4*api.MaxName; n++ {
		for _, b := range []string{"a", "9", "_"} {
			name := strings.Repeat(b, n)
			if n <= api.MaxName {
				wantPieces(t, "$"+name, variableOf(name))
				wantPieces(t, "$"+name+"-", variableOf(name), text("-"))
				wantPieces(t, "${"+name+"}"+name, variableOf(name), text(name))
			} else {
				wantNone(t, "$"+name)
				wantNone(t, "$"+name+"-")
				wantNone(t, "${"+name+"}")
				wantNone(t, "${"+name)
			}
		}
	}
	wantNone(t, "$"+strings.Repeat("a", api.MaxText-1))
}

// It is the text's own length that counts, not that of its pieces.
func TestLengthsOfTexts(t *testing.T) {
	most := strings.Repeat("x", api.MaxText)
	wantPieces(t, most, text(most))
	wantNone(t, most+"x")
	wantPieces(t, strings.Repeat("$$", api.MaxText/2), text(strings.Repeat("$", api.MaxText/2)))
	wantNone(t, strings.Repeat("$$", api.MaxText/2+1))
	wantPieces(t, strings.Repeat("$a", api.MaxText/2), slices.Repeat([]api.Piece{variableOf("a")}, api.MaxText/2)...)
	wantNone(t, strings.Repeat("$a", api.MaxText/2+1))
	wantPieces(t, strings.Repeat("$a-+", api.MaxText/4), slices.Repeat([]api.Piece{variableOf("a"), text("-+")}, api.MaxText/4)...)
	wantNone(t, strings.Repeat("x", 1<<16))
	wantNone(t, strings.Repeat("$", 1<<24))
}

// token tells the whole of the form once more, as a pattern that takes the longest name it can.
var token = regexp.MustCompile(`^(?:\$([$ :])|\$\{([a-z0-9_]+)\}|\$([a-z0-9_]+)|([ -#%-~]))`)

// tokens are a text's pieces by that pattern; false: there are none.
func tokens(s string) ([]api.Piece, bool) {
	var cut []api.Piece
	for s != "" {
		m := token.FindStringSubmatch(s)
		if m == nil || len(m[2]+m[3]) > api.MaxName {
			return nil, false
		}
		s = s[len(m[0]):]
		last := len(cut) - 1
		switch literal := m[1] + m[4]; {
		case literal == "":
			cut = append(cut, variableOf(m[2]+m[3]))
		case last >= 0 && !cut[last].Var:
			cut[last].Text += literal
		default:
			cut = append(cut, text(literal))
		}
	}
	return cut, true
}

func TestEachShortText(t *testing.T) {
	texts := []string{""}
	for len(texts[0]) < 6 {
		var longer []string
		for _, s := range texts {
			for _, b := range []string{"$", "{", "}", "a", "_", " ", ":", "A"} {
				longer = append(longer, s+b)
			}
		}
		texts = longer
		for _, s := range texts {
			if want, ok := tokens(s); ok {
				wantPieces(t, s, want...)
			} else {
				wantNone(t, s)
			}
		}
	}
}

func TestAnswerIsNewMemory(t *testing.T) {
	for _, s := range []string{"main.o", "$main", "${main}", "a$$b", "cc -o $out ${in} more"} {
		got, e := Cut(s)
		again, f := Cut(s)
		if e != api.OK || f != api.OK {
			t.Fatalf("P3.1: %q: %d, %d", s, e, f)
		}
		first := uintptr(unsafe.Pointer(unsafe.StringData(s)))
		for _, piece := range got {
			if at := uintptr(unsafe.Pointer(unsafe.StringData(piece.Text))); first <= at && at < first+uintptr(len(s)) {
				t.Errorf("R4: %q: %q is a part of it", s, piece.Text)
			}
		}
		want := slices.Clone(again)
		for i := range got {
			got[i] = text("turned")
		}
		_ = append(got, text("one more"))
		if !slices.Equal(again, want) {
			t.Errorf("R4: %q: two answers share memory", s)
		}
	}
}

func TestFromSeveralGoroutines(t *testing.T) {
	var all sync.WaitGroup
	for range 8 {
		all.Go(func() {
			for range 200 {
				wantPieces(t, "a$$b$c${d}e", text("a$b"), variableOf("c"), variableOf("d"), text("e"))
				wantNone(t, "a$$b$c${d")
			}
		})
	}
	all.Wait()
}
