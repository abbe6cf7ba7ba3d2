package eval

import (
	"regexp"
	"slices"
	"strconv"
	"strings"
	"sync"
	"testing"
	"unsafe"

	"crucible/api"
)

func bind(name, text string) api.Bind { return api.Bind{Name: name, Text: text} }

// numbered is a scope of so many binds, v0 on.
func numbered(n int) []api.Bind {
	var bs []api.Bind
	for i := range n {
		bs = append(bs, bind("v"+strconv.Itoa(i), "text "+strconv.Itoa(i)))
	}
	return bs
}

func wantValue(t *testing.T, s string, inner, outer []api.Bind, want string) {
	t.Helper()
	if got, e := Of(s, inner, outer); got != want || e != api.OK {
		t.Errorf("P5.1: Of(%q, %v, %v): %q, %d; want %q", s, inner, outer, got, e, want)
	}
}

func wantRefused(t *testing.T, s string, inner, outer []api.Bind, want api.Errno) {
	t.Helper()
	if got, e := Of(s, inner, outer); got != "" || e != want {
		t.Errorf("P5.1: Of(%q, %v, %v): %q, %d; want error %d", s, inner, outer, got, e, want)
	}
}

// wrongScopes are scopes that may not be; where it can be, x is bound in them all the same.
func wrongScopes() [][]api.Bind {
	x := bind("x", "y")
	return [][]api.Bind{
		{{}}, {x, bind("", "a")}, {bind("A", ""), x}, {x, bind("a b", "")}, {x, bind("$a", "")}, {x, bind("é", "")},
		{x, bind(strings.Repeat("a", api.MaxName+1), "")}, {x, x}, {x, bind("a", ""), bind("x", "")},
		{bind("x", "\n")}, {x, bind("a", "\t")}, {x, bind("a", "\x00")}, {x, bind("a", "\x7f")}, {x, bind("a", "\xff")},
		{bind("x", strings.Repeat("x", api.MaxEval+1))}, append(numbered(api.MaxVars), x),
	}
}

// wrongTexts are texts that have no pieces.
func wrongTexts() []string {
	return []string{
		"$", "a$", "$x$", "$$$", "${", "${}", "${x", "${x y}", "${$x}", "${X}", "${a.b}", "${a-b}", "$X", "$-", "$.", "$/", "$}", "$=",
		"$" + strings.Repeat("x", api.MaxName+1), "${" + strings.Repeat("x", api.MaxName+1) + "}",
		"\n", "a\n", "$\n", "$x\t", "\x00", "\x1f", "\x7f", "\x80", "\xff", "é",
		strings.Repeat("$z", api.MaxText/2+1), strings.Repeat("x", api.MaxText+1),
	}
}

func TestTextAlone(t *testing.T) {
	for _, bs := range [][]api.Bind{nil, {}, {bind("a", "turned")}} {
		for _, s := range []string{"", "a", " ", "  a  ", "{a}", "cc -o a.out a.c", "A = B | C || D # e", "~"} {
			wantValue(t, s, bs, bs, s)
		}
		wantValue(t, "$$", bs, bs, "$")
		wantValue(t, "$ ", bs, bs, " ")
		wantValue(t, "$:", bs, bs, ":")
		wantValue(t, "$$a$ b$:c$${a}", bs, bs, "$a b:c${a}")
	}
}

func TestVariables(t *testing.T) {
	inner := []api.Bind{bind("in", "a.c b.c"), bind("out", "a.o"), bind("x_1", "one"), bind("x", "two")}
	outer := []api.Bind{bind("cc", "gcc -O2"), bind("out", "none"), bind("_", "low"), bind("0", "digit")}
	for _, c := range [][2]string{
		{"$in", "a.c b.c"}, {"${in}", "a.c b.c"}, {"$cc", "gcc -O2"}, {"${cc}", "gcc -O2"}, {"$out", "a.o"},
		{"$cc -o $out $in", "gcc -O2 -o a.o a.c b.c"}, {"${cc}$out${in}$out", "gcc -O2a.oa.c b.ca.o"},
		{"$x_1", "one"}, {"${x}_1", "two_1"}, {"$x-1", "two-1"}, {"$xX", "twoX"}, {"$x$x$x", "twotwotwo"},
		{"$_$0", "lowdigit"}, {"$$x$x$$", "$xtwo$"}, {"{$x}", "{two}"}, {"$x}", "two}"},
		{"$none", ""}, {"${none}", ""}, {"a$none b", "a b"}, {"$ou", ""}, {"$outs", ""}, {"$x_", ""},
	} {
		wantValue(t, c[0], inner, outer, c[1])
	}
}

// A bind of the inner scope to an empty text does not hide the outer one.
func TestInnerAheadOfOuter(t *testing.T) {
	for _, c := range []struct {
		inner, outer []api.Bind
		want         string
	}{
		{nil, nil, ""},
		{[]api.Bind{bind("x", "in")}, nil, "in"},
		{nil, []api.Bind{bind("x", "out")}, "out"},
		{[]api.Bind{bind("x", "in")}, []api.Bind{bind("x", "out")}, "in"},
		{[]api.Bind{bind("x", "")}, []api.Bind{bind("x", "out")}, "out"},
		{[]api.Bind{bind("x", "in")}, []api.Bind{bind("x", "")}, "in"},
		{[]api.Bind{bind("x", "")}, []api.Bind{bind("x", "")}, ""},
		{[]api.Bind{bind("x", "")}, nil, ""},
		{[]api.Bind{bind("x", " ")}, []api.Bind{bind("x", "out")}, " "},
		{[]api.Bind{bind("y", "in")}, []api.Bind{bind("x", "out")}, "out"},
	} {
		wantValue(t, "$x", c.inner, c.outer, c.want)
		wantValue(t, "<${x}>", c.inner, c.outer, "<"+c.want+">")
	}
	same := []api.Bind{bind("x", "one")}
	wantValue(t, "$x", same, same, "one")
}

// What a variable stands for is a text as it is, whatever `$` there is in it.
func TestTextsOfVariablesStayAsTheyAre(t *testing.T) {
	inner := []api.Bind{bind("x", "$y"), bind("y", "$$"), bind("z", "${"), bind("w", "$x$w\"")}
	outer := []api.Bind{bind("v", "$"), bind("u", "$ $:${y}")}
	wantValue(t, "$x,$y,$z,$w,$v,$u", inner, outer, "$y,$$,${,$x$w\",$,$ $:${y}")
	wantValue(t, "${v}y", inner, outer, "$y")
	wantValue(t, "$v$v", inner, outer, "$$")
}

func TestEachOfAFullScope(t *testing.T) {
	bs := numbered(api.MaxVars)
	for i, b := range bs {
		s := "$v" + strconv.Itoa(i) + "."
		wantValue(t, s, bs, nil, b.Text+".")
		wantValue(t, s, nil, bs, b.Text+".")
	}
	wantValue(t, "$v16", bs, bs, "")
}

func TestWrongTexts(t *testing.T) {
	long := []api.Bind{bind("x", strings.Repeat("x", api.MaxEval))}
	for _, s := range wrongTexts() {
		for _, bs := range [][]api.Bind{nil, {bind("x", "y")}, long} {
			wantRefused(t, s, bs, nil, api.ErrEvalForm)
			wantRefused(t, s, nil, bs, api.ErrEvalForm)
		}
	}
}

// A scope that may not be is refused, whether the text asks it or not.
func TestWrongScopes(t *testing.T) {
	may := []api.Bind{bind("x", "z")}
	for _, bs := range wrongScopes() {
		for _, s := range []string{"", "a", "$$", "$x", "${x}", "$none"} {
			for _, other := range [][]api.Bind{nil, may, bs} {
				wantRefused(t, s, bs, other, api.ErrEvalForm)
				wantRefused(t, s, other, bs, api.ErrEvalForm)
			}
		}
	}
}

func TestLengths(t *testing.T) {
	for n := range 3 * api.MaxEval {
		plain := strings.Repeat("x", n)
		escaped := strings.Repeat("$$", n)
		ones := strings.Repeat("$v", n)
		one := []api.Bind{bind("v", "1")}
		if n > api.MaxEval {
			wantRefused(t, plain, nil, nil, api.ErrEvalLong)
			wantRefused(t, escaped, nil, nil, api.ErrEvalLong)
			wantRefused(t, ones, one, nil, api.ErrEvalLong)
			wantRefused(t, ones, nil, one, api.ErrEvalLong)
			continue
		}
		wantValue(t, plain, nil, nil, plain)
		wantValue(t, escaped, nil, nil, strings.Repeat("$", n))
		wantValue(t, ones, one, nil, strings.Repeat("1", n))
		wantValue(t, "$v", []api.Bind{bind("v", plain)}, nil, plain)
		wantValue(t, "$v", nil, []api.Bind{bind("v", plain)}, plain)
	}
	most := strings.Repeat("x", api.MaxEval)
	full := []api.Bind{bind("v", most)}
	for _, s := range []string{"$v.", ".$v", "$v$$", "$v$v", "$v$none ", "$none$v$v", strings.Repeat("$v", api.MaxText/2)} {
		wantRefused(t, s, full, nil, api.ErrEvalLong)
		wantRefused(t, s, nil, full, api.ErrEvalLong)
	}
	wantValue(t, "$none$v$none", full, full, most)
	wantRefused(t, strings.Repeat("x", api.MaxText), nil, nil, api.ErrEvalLong)
}

// It is the value's length that counts: the text's own may be greater.
func TestLongTextOfShortValue(t *testing.T) {
	wantValue(t, strings.Repeat("$n", api.MaxText/2), nil, nil, "")
	wantValue(t, strings.Repeat("${none}", api.MaxText/7)+"a", numbered(api.MaxVars), numbered(api.MaxVars), "a")
}

// What is wrong in the form is told ahead of a value that is too long, even if it stands behind it.
func TestFormAheadOfLength(t *testing.T) {
	long := strings.Repeat("x", api.MaxEval+1)
	wantRefused(t, long, nil, nil, api.ErrEvalLong)
	for _, fault := range []string{"$", "${", "${x", "$X", "\n", "\x7f", "\xff"} {
		wantRefused(t, long+fault, nil, nil, api.ErrEvalForm)
		wantRefused(t, fault+long, nil, nil, api.ErrEvalForm)
	}
	for _, bs := range wrongScopes() {
		wantRefused(t, long, bs, nil, api.ErrEvalForm)
		wantRefused(t, long, nil, bs, api.ErrEvalForm)
	}
	wantRefused(t, strings.Repeat("x", api.MaxText+1), nil, nil, api.ErrEvalForm)
}

// part tells once more, as a pattern, what a `$` may begin; a `$` in what is left refuses.
var part = regexp.MustCompile(`\$[$ :]|\$\{[a-z0-9_]+\}|\$[a-z0-9_]+`)

func TestEachShortText(t *testing.T) {
	inner := []api.Bind{bind("a", "A"), bind("aa", ""), bind("ab", "$a")}
	outer := []api.Bind{bind("a", "no"), bind("aa", "two"), bind("b", "${b}")}
	values := map[string]string{"a": "A", "aa": "two", "ab": "$a", "b": "${b}"}
	texts := []string{""}
	for len(texts[0]) < 6 {
		var longer []string
		for _, s := range texts {
			for _, b := range []string{"$", "{", "}", "a", "b", " "} {
				longer = append(longer, s+b)
			}
		}
		texts = longer
		for _, s := range texts {
			if strings.Contains(part.ReplaceAllString(s, "-"), "$") {
				wantRefused(t, s, inner, outer, api.ErrEvalForm)
				continue
			}
			wantValue(t, s, inner, outer, part.ReplaceAllStringFunc(s, func(m string) string {
				if strings.ContainsAny(m[1:2], "$ ") {
					return m[1:]
				}
				return values[strings.Trim(m, "${}")]
			}))
		}
	}
}

func within(inside, all string) bool {
	first, at := uintptr(unsafe.Pointer(unsafe.StringData(all))), uintptr(unsafe.Pointer(unsafe.StringData(inside)))
	return len(inside) > 0 && first <= at && at < first+uintptr(len(all))
}

func TestAnswerIsNewMemory(t *testing.T) {
	all := "name$name text"
	inner, outer := make([]api.Bind, 1, 4), make([]api.Bind, 2, 4)
	inner[0] = bind(all[0:4], all[10:14])
	outer[0], outer[1] = bind(all[10:14], all[0:9]), bind("empty", "")
	oldInner, oldOuter := slices.Clone(inner), slices.Clone(outer)
	for _, s := range []string{all[0:4], all[4:9], all, "$text", "$name", "$empty$text"} {
		got, e := Of(s, inner, outer)
		again, f := Of(s, inner, outer)
		if e != api.OK || f != api.OK || got != again {
			t.Fatalf("P5.1: %q: %q, %d; %q, %d", s, got, e, again, f)
		}
		if within(got, all) || within(got, s) || within(got, again) {
			t.Errorf("R4: %q: the answer %q shares memory", s, got)
		}
	}
	if !slices.Equal(inner, oldInner) || !slices.Equal(outer, oldOuter) {
		t.Error("R4: a scope was changed")
	}
	for _, b := range append(inner[1:4:4], outer[2:4]...) {
		if b != (api.Bind{}) {
			t.Errorf("R4: the spare room has %v", b)
		}
	}
}

func TestFromSeveralGoroutines(t *testing.T) {
	inner, outer := []api.Bind{bind("in", "a.c")}, []api.Bind{bind("cc", "gcc")}
	var all sync.WaitGroup
	for range 8 {
		all.Go(func() {
			for range 200 {
				wantValue(t, "$cc $in", inner, outer, "gcc a.c")
				wantRefused(t, "$cc ${in", inner, outer, api.ErrEvalForm)
			}
		})
	}
	all.Wait()
}
