package manifest

import (
	"regexp"
	"slices"
	"strconv"
	"strings"
	"sync"
	"testing"
	"unsafe"

	"crucible/api"
)

const ruleR = "rule r\n command = c $in $out $x\n"
const poolP = "pool p\n depth = 1\n"

func sameEdge(a, b api.Edge) bool {
	return slices.Equal(a.Outs, b.Outs) && slices.Equal(a.Ins, b.Ins) && slices.Equal(a.Implicit, b.Implicit) && slices.Equal(a.Order, b.Order) &&
		a.Command == b.Command && a.Deps == b.Deps && a.Pool == b.Pool
}

func same(a, b api.Graph) bool {
	return slices.EqualFunc(a.Edges, b.Edges, sameEdge) && slices.Equal(a.Pools, b.Pools) && slices.Equal(a.Defaults, b.Defaults)
}

func wantGraph(t *testing.T, s string, want api.Graph) {
	t.Helper()
	if got, e := Parse(s); !same(got, want) || e != api.OK {
		t.Errorf("P8.1: %.400q: %v, %d; want %v", s, got, e, want)
	}
}

func wantError(t *testing.T, s string, want api.Errno) {
	t.Helper()
	if got, e := Parse(s); !same(got, api.Graph{}) || e != want {
		t.Errorf("P8.1: %.400q: %v, %d; want error %d", s, got, e, want)
	}
}

func wantForm(t *testing.T, s string) {
	t.Helper()
	wantError(t, s, api.ErrManifestForm)
}

func wantFull(t *testing.T, s string) {
	t.Helper()
	wantError(t, s, api.ErrManifestFull)
}

// edge is an edge whose lists are told by texts.
func edge(outs, ins, implicit, order, command string) api.Edge {
	return api.Edge{Outs: strings.Fields(outs), Ins: strings.Fields(ins), Implicit: strings.Fields(implicit), Order: strings.Fields(order), Command: command}
}

// graph is a graph of edges alone.
func graph(edges ...api.Edge) api.Graph { return api.Graph{Edges: edges} }

// wantCommand asks for the command of the one edge that is there.
func wantCommand(t *testing.T, s string, want string) {
	t.Helper()
	if got, e := Parse(s); len(got.Edges) != 1 || got.Edges[0].Command != want || e != api.OK {
		t.Errorf("P8.1: %.400q: %v, %d; want the command %q", s, got, e, want)
	}
}

// numbered is so many times s, with a to z, then aa to az in the place of `#`.
func numbered(n int, s string) string {
	var all strings.Builder
	for i := range n {
		all.WriteString(strings.ReplaceAll(s, "#", strings.Repeat("a", i/26)+string(rune('a'+i%26))))
	}
	return all.String()
}

func TestWholeManifest(t *testing.T) {
	s := `# how a program is made
cc = gcc
flags = -O2 $
        -g

pool link
  depth = 2

rule compile
  command = $cc $flags -c $in -o $out
  deps = 1
rule link
  command = ${cc} $in $libs -o $out
  pool = link

build ./a.o : compile src/../a.c | gen/a.h
build b.o b.d : compile b.c || gen
  flags = -O0
  # a remark below a build
build prog : link a.o b.o
  libs = -lm
cc = clang
build c.o : compile c.c
default prog ./c.o
default a.o
`
	a := edge("a.o", "a.c", "gen/a.h", "", "gcc -O2 -g -c a.c -o a.o")
	b := edge("b.o b.d", "b.c", "", "gen", "gcc -O0 -c b.c -o b.o b.d")
	prog := edge("prog", "a.o b.o", "", "", "gcc a.o b.o -lm -o prog")
	c := edge("c.o", "c.c", "", "", "clang -O2 -g -c c.c -o c.o")
	a.Deps, b.Deps, c.Deps, prog.Pool = true, true, true, "link"
	wantGraph(t, s, api.Graph{
		Edges:    []api.Edge{a, b, prog, c},
		Pools:    []api.Pool{{Name: "link", Depth: 2}},
		Defaults: []string{"prog", "c.o", "a.o"},
	})
}

func TestNothingInIt(t *testing.T) {
	for _, s := range []string{"", "\n", "  \n\n", "# a\n", "  # a\n\n#\n", "a = 1\n", "a =\n", ruleR, "rule r\n command = c\n deps = 1\n"} {
		wantGraph(t, s, api.Graph{})
	}
}

func TestLinesRefused(t *testing.T) {
	for _, s := range []string{"a = 1", ruleR + "default a", "a = 1\n\t\n", "a = \x7f\n", "# \x80\n", "a = 1\r\n", "a\x00 = 1\n", "a = $\n", "rule r\n command = $\n"} {
		wantForm(t, s)
	}
	fill := func(n int) string { return "#" + strings.Repeat("x", n-2) + "\n" }
	wantGraph(t, fill(api.MaxText), api.Graph{})
	wantForm(t, fill(api.MaxText+1))
	wantForm(t, fill(1<<22))
	// The text is refused ahead of all that its lines tell.
	wantForm(t, numbered(api.MaxRules+1, "rule #\n command = c\n")+"\t\n")
}

func TestOuterBinds(t *testing.T) {
	build := "rule r\n command = <$x>\nbuild o : r\n"
	for _, c := range [][2]string{
		{"x = 1\n", "<1>"}, {"x=1\n", "<1>"}, {"x   =   1   \n", "<1>"}, {"x = a  b\n", "<a  b>"}, {"x =\n", "<>"}, {"", "<>"},
		{"x = a=b\n", "<a=b>"}, {"x == b\n", "<= b>"}, {"x = =\n", "<=>"},
		{"x = 1\nx = 2\n", "<2>"}, {"x = 1\nx =\n", "<>"}, {"x = 1\nx = $x$x\nx = ${x}0\n", "<110>"}, {"x = $x.\n", "<.>"},
		{"y = 1\nx = $y\ny = 2\n", "<1>"}, {"x = $y\ny = 2\n", "<>"}, {"y = $$z\nz = 3\nx = $y\n", "<$z>"},
		{"x = $$ $:$$\n", "<$ :$>"}, {"x = a$ \n", ""}, {"x = $ a\n", "< a>"}, {"x = a$ $ \n", ""}, {"x = $\n    a\n", "<a>"},
		{"x = #\n", "<#>"}, {"x = rule r\n", "<rule r>"}, {"x = ~!\"%&'()*+,-./:;<?@[]^`{|}\n", "<~!\"%&'()*+,-./:;<?@[]^`{|}>"},
	} {
		if c[1] == "" { // The `$` is the last byte when the blanks behind it are gone.
			wantForm(t, c[0]+build)
			continue
		}
		wantCommand(t, c[0]+build, c[1])
	}
	for _, s := range []string{"x\n", "=\n", "= 1\n", " = 1\n", "X = 1\n", "a b = 1\n", "$x = 1\n", "x : 1\n", "x = $.\n", "x = ${\n", "x = ${a.b}\n", "x = $X\n", "a$ b = 1\n"} {
		wantForm(t, s)
		wantForm(t, s+build)
		wantForm(t, build+s)
	}
}

func TestNamesOfBinds(t *testing.T) {
	for n := range 3 * api.MaxName {
		key := strings.Repeat("v", n)
		if 1 <= n && n <= api.MaxName {
			wantCommand(t, key+" = 1\nrule r\n command = <${"+key+"}>\nbuild o : r\n", "<1>")
			wantCommand(t, "rule r\n command = <${"+key+"}>\nbuild o : r\n "+key+" = 1\n", "<1>")
			continue
		}
		wantForm(t, key+" = 1\n")
		wantForm(t, ruleR+"build o : r\n "+key+" = 1\n")
	}
	// A bind's name is one of layer 1: it may have bytes that no variable's name has.
	for _, key := range []string{"a.b", "a-b", "a/b", "/", "..", "_", "0", "rule=", "rule.", "ruler", "pool/", "builds", "build-", "default_"} {
		key = strings.Trim(key, "=")
		wantGraph(t, key+"=1\n", api.Graph{})
		wantCommand(t, ruleR+"build o : r\n "+key+" = 1\n", "c  o ")
	}
}

func TestLengthOfValues(t *testing.T) {
	for n := api.MaxEval - 2; n < api.MaxEval+3; n++ {
		long := strings.Repeat("x", n)
		twice := "y = " + strings.Repeat("x", n/2) + "\nx = $y${y}" + strings.Repeat("z", n%2) + "\n"
		command := "rule r\n command = " + long + "\nbuild o : r\n"
		own := "rule r\n command = $x\nbuild o : r\n x = " + long + "\n"
		if n > api.MaxEval {
			wantForm(t, "x = "+long+"\n")
			wantForm(t, twice)
			wantForm(t, command)
			wantForm(t, own)
			continue
		}
		wantGraph(t, "x = "+long+"\n", api.Graph{})
		wantGraph(t, twice, api.Graph{})
		wantCommand(t, command, long)
		wantCommand(t, own, long)
	}
	// A rule's command is a text as it stands: only that of an edge has a length.
	wantGraph(t, "rule r\n command = "+strings.Repeat("x", 2000)+"\n", api.Graph{})
	wantCommand(t, "rule r\n command = "+strings.Repeat("$x", 900)+"!\nbuild o : r\n", "!")
}

// A word is one of the four only with a blank, or nothing, behind it.
func TestFirstWords(t *testing.T) {
	wantCommand(t, "rule=7\npool=8\nbuild=9\ndefault=0\nrule r\n command = $rule$pool$build$default\nbuild o : r\n", "7890")
	wantGraph(t, "rules = 1\nrule.x = 2\nbuild-x=3\ndefaults=4\nrul = 5\npool/ = 6\n", api.Graph{})
	for _, word := range []string{"rule", "pool", "build", "default"} {
		for _, s := range []string{word + "\n", word + "  \n", word + " =1\n", word + " = 1\n", word + " x = 1\n", word + ":\n", word + ":x\n", "x " + word + "\n", word + word + " x\n"} {
			wantForm(t, ruleR+s)
			wantForm(t, ruleR+s+" command = c\n depth = 1\n")
		}
	}
	for _, s := range []string{"Rule a\n command = c\n", "rulea\n command = c\n", "subninja a\n", "include a\n"} {
		wantForm(t, s)
	}
}

func TestBlanksBehindTheFirstWord(t *testing.T) {
	for n := 1; n < 6; n++ {
		wide := strings.Repeat(" ", n)
		s := "pool" + wide + "p" + wide + "\n" + wide + "depth" + wide + "=" + wide + "3" + wide + "\n" +
			"rule" + wide + "r" + wide + "\n" + wide + "command" + wide + "=" + wide + "c" + wide + "d" + wide + "\n" +
			"build" + wide + "o" + wide + ":" + wide + "r" + wide + "i" + wide + "\n" +
			"default" + wide + "a" + wide + "b" + wide + "\n"
		wantGraph(t, s, api.Graph{
			Edges:    []api.Edge{edge("o", "i", "", "", "c"+wide+"d")},
			Pools:    []api.Pool{{Name: "p", Depth: 3}},
			Defaults: []string{"a", "b"},
		})
	}
}

func TestNamesOfRulesAndPools(t *testing.T) {
	for _, called := range []string{"r", "a.b", "a/b", "/", "..", "./a", "rule", "build", "0", strings.Repeat("r", api.MaxName)} {
		made := edge("o", "", "", "", "c")
		made.Pool = called
		wantGraph(t, "pool "+called+"\n depth = 1\nrule "+called+"\n command = c\n pool = "+called+"\nbuild o : "+called+"\n",
			api.Graph{Edges: []api.Edge{made}, Pools: []api.Pool{{Name: called, Depth: 1}}})
	}
	for _, called := range []string{"", "R", "a b", "a:", "$a", "a=1", "=", "é", strings.Repeat("r", api.MaxName+1), strings.Repeat("r", 1000)} {
		wantForm(t, "rule "+called+"\n command = c\n")
		wantForm(t, "pool "+called+"\n depth = 1\n")
	}
	// Names of rules and pools are no names of files: they are held against each other as they stand.
	wantGraph(t, "rule a\n command = c\nrule ./a\n command = d\nbuild o : ./a\nbuild p : a\n", graph(edge("o", "", "", "", "d"), edge("p", "", "", "", "c")))
	wantForm(t, "rule a\n command = c\nbuild o : ./a\n")
	wantForm(t, "pool a\n depth = 1\nrule a\n command = c\n pool = ./a\n")
	// Only those of one kind must differ.
	for _, s := range []string{ruleR + ruleR, ruleR + "rule s\n command = c\n" + ruleR, poolP + poolP, poolP + "pool q\n depth = 1\npool p\n depth = 2\n"} {
		wantForm(t, s)
	}
}

func TestBindsOfRules(t *testing.T) {
	deps, pool, command := " deps = 1\n", " pool = p\n", " command = c\n"
	for _, c := range []struct {
		binds string
		deps  bool
		pool  string
	}{
		{command, false, ""}, {command + deps, true, ""}, {deps + command, true, ""}, {pool + command, false, "p"}, {command + pool, false, "p"},
		{deps + pool + command, true, "p"}, {pool + command + deps, true, "p"}, {command + "# x\n\n" + deps + "  # y\n" + pool, true, "p"},
	} {
		made := edge("o", "", "", "", "c")
		made.Deps, made.Pool = c.deps, c.pool
		wantGraph(t, poolP+"rule r\n"+c.binds+"build o : r\n", api.Graph{Edges: []api.Edge{made}, Pools: []api.Pool{{Name: "p", Depth: 1}}})
	}
	for _, binds := range []string{
		"", deps, pool, deps + pool, " command =\n", " command = \n" + command, command + command, command + " command = d\n", command + " command =\n",
		command + deps + deps, command + pool + pool, command + pool + deps + " pool = q\n",
		command + " deps = 0\n", command + " deps =\n", command + " deps = 11\n", command + " deps = 1 1\n", command + " deps = $one\n", command + " deps = gcc\n",
		command + " pool =\n", command + " pool = r\n", command + " pool = P\n", command + " pool = p p\n", command + " pool = $one\n", command + " pool = $p\n",
		command + " x = 1\n", command + " depth = 1\n", command + " in = 1\n", command + " commands = 1\n", command + " Deps = 1\n", command + " deps\n", command + " = 1\n", " command\n", " command c\n",
	} {
		wantForm(t, "one = 1\np = p\n"+poolP+"pool q\n depth = 1\nrule r\n"+binds)
		wantForm(t, "one = 1\np = p\n"+poolP+"pool q\n depth = 1\nrule r\n"+binds+"build o : r\n")
	}
	wantForm(t, "rule r\n command = c\n pool = p\n"+poolP)
}

// A rule's command is not read before an edge asks for it.
func TestCommandAsItStands(t *testing.T) {
	for _, text := range []string{"$.", "${", "$(", "a$X", "${a.b}", "$" + strings.Repeat("x", api.MaxName+1), "$x", "$none$none"} {
		wantGraph(t, "rule r\n command = "+text+"\n", api.Graph{})
		wantForm(t, "rule r\n command = "+text+"\nbuild o : r\n")
	}
	wantCommand(t, "x = 1\nrule r\n command = $x$y\nx = 2\ny = 3\nbuild o : r\n", "23")
	wantCommand(t, "rule r\n command = a = b = c\nbuild o : r\n", "a = b = c")
	wantCommand(t, "rule r\n command = $ \\$:$$# |\nbuild o : r\n", " \\:$# |")
	wantCommand(t, "rule r\n command = $none $ $none\nbuild o : r\n", "  ")
}

func TestDepths(t *testing.T) {
	for b := range 256 {
		value := string([]byte{byte(b)})
		s := "pool p\n depth = " + value + "\n"
		if '1' <= b && b <= '8' {
			wantGraph(t, s, api.Graph{Pools: []api.Pool{{Name: "p", Depth: b - '0'}}})
		} else {
			wantForm(t, s)
		}
	}
	for _, binds := range []string{
		"", " depth =\n", " depth = 01\n", " depth = 10\n", " depth = 11\n", " depth = +1\n", " depth = -1\n", " depth = 1.\n", " depth = 1 1\n", " depth = $one\n", " depth = 4294967297\n",
		" depth = 1\n depth = 1\n", " depth = 1\n depth = 2\n", " depth = 1\n x = 1\n", " depth = 1\n command = c\n", " deps = 1\n", " depth\n", " depth 1\n", " Depth = 1\n", " depths = 1\n", " = 1\n",
	} {
		wantForm(t, "one = 1\npool p\n"+binds)
		wantForm(t, "one = 1\npool p\n"+binds+"two = 2\n")
	}
}

func TestBuildLines(t *testing.T) {
	for _, c := range []struct {
		line string
		want api.Edge
	}{
		{"o : r", edge("o", "", "", "", "c  o ")},
		{"o : r i", edge("o", "i", "", "", "c i o ")},
		{"o p : r i j", edge("o p", "i j", "", "", "c i j o p ")},
		{"o : r i | j", edge("o", "i", "j", "", "c i o ")},
		{"o : r i || j", edge("o", "i", "", "j", "c i o ")},
		{"o : r | i || j k", edge("o", "", "i", "j k", "c  o ")},
		{"./o a/../p : r i//j ././k | x/ || y/./z", edge("o p", "i/j k", "x", "y/z", "c i/j k o p ")},
		{"o o : r o | o || o", edge("o o", "o", "o", "o", "c o o o ")},
		{"$\n   o : $\n r $\n", edge("o", "", "", "", "c  o ")},
	} {
		wantGraph(t, ruleR+"build "+c.line+"\n", graph(c.want))
	}
	for _, line := range []string{
		"", "o", "o :", "o : s", "o : R", ": r", "o: r", "o :r", "o : r i |", "o : r i ||", "o : r || i | j", "o : r O", "o : r $i", "o : r i : j", "O : r", "o : r" + strings.Repeat(" i", api.MaxList+1),
		"/o : r", ".. : r", ". : r", "a/.. : r", "/ : r", "o /p : r", "o : r /i", "o : r i ..", "o : r a/../..", "o : r | .", "o : r | i /j", "o : r || /", "o : r || i a/..",
	} {
		wantForm(t, ruleR+"build "+line+"\n")
	}
	wantForm(t, "build o : r\n"+ruleR)
	wantForm(t, "rule s\n command = c\nbuild o : r\n"+ruleR)
	most := strings.Repeat(" "+strings.Repeat("n", api.MaxName), api.MaxList)
	wantGraph(t, "rule r\n command = c\nbuild"+most+" : r"+most+" |"+most+" ||"+most+"\n", graph(edge(most, most, most, most, "c")))
}

func TestBindsOfBuilds(t *testing.T) {
	for _, c := range []struct{ head, binds, want string }{
		{"", "", "c i o "}, {"", " x = 1\n", "c i o 1"}, {"x = 2\n", "", "c i o 2"}, {"x = 2\n", " x = 1\n", "c i o 1"},
		{"x = 2\n", " x =\n", "c i o 2"}, {"x = 2\n", " y = 1\n", "c i o 2"}, {"", " x = 1\n x = 2\n", "c i o 2"},
		// Of the outer scope alone: what the build itself has set is not asked.
		{"x = 2\n", " x = $x$x\n x = $x.\n", "c i o 2."}, {"", " y = 1\n x = $y.\n", "c i o ."}, {"", " x = $in$out.\n", "c i o ."},
		// What a value stands for is a text as it is.
		{"", " x = $$in\n", "c i o $in"}, {"x = $$out\n", "", "c i o $out"},
		// in and out are those of the edge, whatever else was bound.
		{"in = 1\nout = 2\n", "", "c i o "}, {"", " in = 1\n out = 2\n", "c i o "}, {"in = 1\n", " x = $in\n in = 3\n", "c i o 1"},
	} {
		wantCommand(t, c.head+ruleR+"build o : r i\n"+c.binds, c.want)
		wantCommand(t, ruleR+c.head+"build o : r i\n"+c.binds+"x = 9\nin = 9\nout = 9\n", c.want)
	}
	for _, bind := range []string{" x\n", " = 1\n", " X = 1\n", " a b = 1\n", " x = $.\n", " x = ${\n", " build p : r\n", " rule s\n", " default a\n"} {
		wantForm(t, ruleR+"build o : r i\n"+bind)
		wantForm(t, ruleR+"build o : r i\n x = 1\n"+bind+" x = 1\n")
	}
	// A build without Ins has an empty in, and so the outer one is asked, as of any other.
	wantCommand(t, "in = 1\n"+ruleR+"build o : r\n", "c 1 o ")
	wantCommand(t, "in = 1\n"+ruleR+"build o : r\n in = 2\n", "c 1 o ")
	// Each build has a scope of its own.
	wantGraph(t, "rule r\n command = c$x$y\nbuild a : r\n x = 1\nbuild b : r\n y = 2\nbuild d : r\n", graph(edge("a", "", "", "", "c1"), edge("b", "", "", "", "c2"), edge("d", "", "", "", "c")))
}

// A build is over at the next line that is not deep, ahead of what that line sets.
func TestWhenABuildIsOver(t *testing.T) {
	rule := "rule r\n command = <$x>\n"
	for _, next := range []string{"x = 2\n", "rule s\n command = c\nx = 2\n", poolP + "x = 2\n", "default o\nx = 2\n", ""} {
		if got, e := Parse("x = 1\n" + rule + "build o : r\n" + next); e != api.OK || len(got.Edges) != 1 || got.Edges[0].Command != "<1>" {
			t.Errorf("P8.1: ahead of %q: %v, %d", next, got, e)
		}
	}
	wantGraph(t, rule+"build a : r\nx = 1\nbuild b : r\nx = 2\nbuild d : r\n", graph(edge("a", "", "", "", "<>"), edge("b", "", "", "", "<1>"), edge("d", "", "", "", "<2>")))
	for _, s := range []string{"rule r\n command = $x\nbuild o : r\nx = 1\n", "rule r\n command = $in\nbuild o : r\n", "rule r\n command = $x$y\nbuild o : r\n x =\n y = $z\n"} {
		wantForm(t, s)
	}
}

func TestDefaults(t *testing.T) {
	for _, c := range [][2]string{
		{"default a\n", "a"}, {"default a b\n", "a b"}, {"default b a b\n", "b a b"}, {"default a\ndefault b c\n", "a b c"}, {"default ./a b/../c d//e f/\n", "a c d/e f"},
		{"default default rule\n", "default rule"}, {"default $\n  a $\n  b\n", "a b"}, {"default a\nx = 1\ndefault a\n", "a a"},
	} {
		wantGraph(t, c[0], api.Graph{Defaults: strings.Fields(c[1])})
	}
	for _, line := range []string{"", "A", "a B", "/a", "..", ".", "a/..", "a ..", "a =", "a = b", "a:", "a : b", "a | b", "$a", "a$ b", strings.Repeat("a", api.MaxName+1)} {
		wantForm(t, "default "+line+"\n")
		wantForm(t, "default a\ndefault "+line+"\n")
	}
}

// A deep line is of the last line that is not deep: behind a default, behind an outer bind, and at first there is none.
func TestDeepLinesWithoutALine(t *testing.T) {
	for _, bind := range []string{" x = 1\n", " command = c\n", " depth = 1\n", " deps = 1\n", " x\n", " rule r\n", " default a\n"} {
		for _, head := range []string{"", "default a\n", "x = 1\n", "# a\n", "\n", ruleR + "default a\n", ruleR + "x = 1\n", poolP + "x = 1\n", ruleR + "build o : r\ndefault o\n", ruleR + "build o : r\nx = 1\n"} {
			wantForm(t, head+bind)
		}
	}
	for _, s := range []string{"rule r\nx = 1\n command = c\n", "rule r\nrule s\n command = c\n", "pool p\n" + ruleR + " depth = 1\n", ruleR + poolP + " deps = 1\n", poolP + ruleR + " depth = 1\n", "rule r\ndefault a\n"} {
		wantForm(t, s)
	}
	// What is left out is no line: it ends nothing.
	wantCommand(t, "rule r\n\n# a\n command = <$x>\n\n#\nbuild o : r\n\n  # b\n   \n x = 1\n", "<1>")
}

func TestLimits(t *testing.T) {
	for _, c := range []struct {
		most            int
		head, row, none string
	}{
		{api.MaxRules, "", "rule #\n command = c\n", "rule A\n"},
		{api.MaxRules, "", "rule #\n command = c\n", "rule a\n"},
		{api.MaxRules, "", "rule #\n command = c\n", "rule\n"},
		{api.MaxPools, "", "pool #\n depth = 1\n", "pool A\n"},
		{api.MaxPools, "", "pool #\n depth = 1\n", "pool a\n"},
		{api.MaxEdges, ruleR, "build # : r\n", "build z : s\n"},
		{api.MaxEdges, ruleR, "build # : r\n", "build z : r |\n"},
		{api.MaxEdges, ruleR, "build # : r\n", "build z : r ..\n"},
		{api.MaxList, "", "default #\n", "default A\n"},
		{api.MaxList, "", "default #\n", "default z ..\n"},
		{api.MaxList, "", "default #\n", "default\n"},
		{api.MaxVars, "", "# = 1\n", "z = $.\n"},
		{api.MaxVars, "", "# = 1\n", "Z = 1\n"},
		{api.MaxVars, "", "# = 1\n", "z = " + strings.Repeat("x", api.MaxEval+1) + "\n"},
		{api.MaxVars - 2, ruleR + "build o : r\n", " # = 1\n", " z = $.\n"},
		{api.MaxVars - 2, ruleR + "build o : r\n in = 1\n", " # = 1\n", " z = $.\n"},
		{api.MaxVars - 2, ruleR + "build o : r\n in = 1\n out = 1\n", " # = 1\n", " Z = 1\n"},
	} {
		for n := range c.most + 1 {
			s := c.head + numbered(n, c.row)
			if _, e := Parse(s); e != api.OK {
				t.Errorf("P8.1: %q: %d", s, e)
			}
			wantForm(t, s+c.none)
		}
		for more := 1; more < 4; more++ {
			wantFull(t, c.head+numbered(c.most+more, c.row))
		}
		// The line that stands first is told of; a build's own scope has room for two more until it is over.
		wantFull(t, c.head+numbered(c.most+3, c.row)+c.none)
	}
	wantFull(t, "default"+strings.Repeat(" a", api.MaxList+1)+"\n")
	wantForm(t, "default"+strings.Repeat(" a", api.MaxList+1)+" ..\n")
	wantFull(t, "default"+strings.Repeat(" a", api.MaxList-1)+"\ndefault a b\n")
	wantFull(t, "default"+strings.Repeat(" a", 1000)+"\n")
	wantGraph(t, "default"+strings.Repeat(" a", api.MaxList-1)+"\ndefault b\n", api.Graph{Defaults: append(slices.Repeat([]string{"a"}, api.MaxList-1), "b")})
}

// What is bound already may be bound again in a scope that is full.
func TestFullScopes(t *testing.T) {
	outer := numbered(api.MaxVars, "# = 1\n")
	wantGraph(t, outer+outer+"a = 2\n", api.Graph{})
	wantFull(t, outer+"q = 2\n")
	build := ruleR + "build o : r\n"
	own := numbered(api.MaxVars-2, " # = 1\n")
	wantCommand(t, outer+build+own+own+" in = 1\n out = 1\n in = 2\n", "c  o ")
	// in and out are set when the build is over: until then there is room for them.
	wantForm(t, build+own+" y = 1\n z = 1\n w = $.\n")
	wantForm(t, build+own+" y = 1\n z = 1\n W = 1\n")
	wantFull(t, build+own+" y = 1\n z = 1\n")
	wantFull(t, build+own+" y = 1\n")
	wantFull(t, build+own+" y = 1\n out = 1\n")
	wantFull(t, build+own+" y = 1\n z = 1\n w = 1\n W = 1\n")
}

// A build's scope is full ahead of its command, and a build is over ahead of the next line.
func TestErrorsInTheirRow(t *testing.T) {
	full := numbered(api.MaxVars-1, " # = 1\n")
	for _, rule := range []string{"rule r\n command = $none\n", "rule r\n command = $.\n", "rule r\n command = " + strings.Repeat("x", api.MaxEval+1) + "\n"} {
		wantForm(t, rule+"build o : r\n")
		wantFull(t, rule+"build o : r\n"+full)
		wantFull(t, rule+"build o : r\n"+full+"build\n")
		wantForm(t, rule+"build o : r /\n"+full)
	}
	wantFull(t, ruleR+"build o : r\n"+full+"rule r\n")
	wantFull(t, ruleR+"build o : r\n"+full+"X = 1\n")
	nine := numbered(api.MaxRules+1, "rule #\n command = c\n")
	wantFull(t, nine+" command = c\n")
	wantFull(t, nine+"X\n")
	wantForm(t, "X\n"+nine)
	wantForm(t, numbered(api.MaxRules-1, "rule #\n command = c\n")+"rule y\nrule z\n command = c\n")
	wantForm(t, numbered(api.MaxRules-1, "rule #\n command = c\n")+"rule y\nrule z\nrule w\n")
	wantForm(t, numbered(api.MaxPools, "pool #\n depth = 1\n")+" depth = 1\npool z\n")
	wantForm(t, numbered(api.MaxPools-1, "pool #\n depth = 1\n")+"pool y\npool z\n")
	wantFull(t, numbered(api.MaxPools, "pool #\n depth = 1\n")+"pool z\n")
	wantFull(t, numbered(api.MaxRules, "rule #\n command = c\n")+"rule z\n")
	seventeen := numbered(api.MaxEdges-1, "build # : r\n")
	wantForm(t, "rule r\n command = $x\n"+"x = 1\n"+seventeen+"x =\nbuild y : r\nbuild z : r\n")
	wantFull(t, "rule r\n command = $x\n"+"x = 1\n"+seventeen+"build y : r\nx =\nbuild z : r\n")
}

// row tells once more, as a pattern, which lines may follow each other; each letter is one of the lines below.
var row = regexp.MustCompile(`^(?:R(?:C|Cp|pC)|PD|B[bCDp]*|X|d)*$`)

// pooled is a rule that has a pool, dotted a build that has set x.
var pooled, dotted = regexp.MustCompile(`RC?p`), regexp.MustCompile(`^B[CDp]*b`)

func textOf(letters string) string {
	var s strings.Builder
	for i := range len(letters) {
		s.WriteString(map[byte]string{'R': "rule r\n", 'C': " command = c$x\n", 'P': "pool p\n", 'D': " depth = 2\n", 'p': " pool = p\n", 'B': "build o : r i\n", 'b': " x = $x.\n", 'X': "x = $x-\n", 'd': "default o\n"}[letters[i]])
	}
	return s.String()
}

// mayRow: may these lines stand so, each with what it names ahead of it?
func mayRow(s string) bool {
	rule, pool, build := strings.IndexByte(s, 'R'), strings.IndexByte(s, 'P'), strings.IndexByte(s, 'B')
	poolAhead := !pooled.MatchString(s) || 0 <= pool && pool < rule
	ruleAhead := build < 0 || 0 <= rule && rule < build
	return row.MatchString(s) && strings.Count(s, "R") < 2 && strings.Count(s, "P") < 2 && poolAhead && ruleAhead
}

// graphOfRow is what lines that may stand so tell.
func graphOfRow(s string) api.Graph {
	var g api.Graph
	if strings.Contains(s, "P") {
		g.Pools = []api.Pool{{Name: "p", Depth: 2}}
	}
	g.Defaults = slices.Repeat([]string{"o"}, strings.Count(s, "d"))
	for i := range len(s) {
		if s[i] != 'B' {
			continue
		}
		made := edge("o", "i", "", "", "c"+strings.Repeat("-", strings.Count(s[:i], "X")))
		if dotted.MatchString(s[i:]) {
			made.Command += "."
		}
		if pooled.MatchString(s) {
			made.Pool = "p"
		}
		g.Edges = append(g.Edges, made)
	}
	return g
}

func TestEachShortRow(t *testing.T) {
	// The letters ahead give those behind them something to name.
	for _, head := range []string{"", "RC", "PDRpC", "RCB"} {
		rows := []string{head}
		for range 4 {
			var longer []string
			for _, s := range rows {
				for _, letter := range []string{"R", "C", "P", "D", "p", "B", "b", "X", "d"} {
					longer = append(longer, s+letter)
				}
			}
			rows = longer
			for _, s := range rows {
				if mayRow(s) {
					wantGraph(t, textOf(s), graphOfRow(s))
				} else {
					wantForm(t, textOf(s))
				}
			}
		}
	}
}

// Whatever bytes stand in it, a text is read to its end, and beside an error there is nothing.
func TestEachByteAnywhere(t *testing.T) {
	s := "x = 1\n" + poolP + "rule r\n command = c$x\n pool = p\nbuild o : r i | j || k\n y = $x\ndefault o\n"
	if _, e := Parse(s); e != api.OK {
		t.Fatalf("P8.1: %q: %d", s, e)
	}
	for i := range len(s) {
		for b := range 256 {
			for _, turned := range []string{s[:i] + string([]byte{byte(b)}) + s[i+1:], s[:i] + string([]byte{byte(b)}) + s[i:], s[:i] + s[i+1:]} {
				got, e := Parse(turned)
				if e != api.OK && (e != api.ErrManifestForm || !same(got, api.Graph{})) {
					t.Errorf("P8.1: %q: %v, %d", turned, got, e)
				}
			}
		}
	}
}

func within(inside, all string) bool {
	first, at := uintptr(unsafe.Pointer(unsafe.StringData(all))), uintptr(unsafe.Pointer(unsafe.StringData(inside)))
	return len(inside) > 0 && first <= at && at < first+uintptr(len(all))
}

// textsOf are all texts of a graph.
func textsOf(g api.Graph) []string {
	texts := slices.Clone(g.Defaults)
	for _, p := range g.Pools {
		texts = append(texts, p.Name)
	}
	for _, e := range g.Edges {
		texts = slices.Concat(texts, e.Outs, e.Ins, e.Implicit, e.Order, []string{e.Command, e.Pool})
	}
	return texts
}

func TestAnswerIsNewMemory(t *testing.T) {
	s := poolP + "rule r\n command = $in\n pool = p\nbuild oo pp : r ii jj | kk || ll\nbuild qq : r ii | kk || ll\ndefault oo qq\n"
	got, e := Parse(s)
	again, f := Parse(s)
	if e != api.OK || f != api.OK || !same(got, again) {
		t.Fatalf("P8.1: %v, %d; %v, %d", got, e, again, f)
	}
	texts, others := textsOf(got), textsOf(again)
	for i, text := range texts {
		for j, other := range others {
			if within(text, s) || within(text, other) || i != j && within(text, texts[j]) {
				t.Errorf("R4: %q shares memory", text)
			}
		}
	}
	var lists [][]string
	for _, one := range got.Edges {
		lists = append(lists, one.Outs, one.Ins, one.Implicit, one.Order)
	}
	lists = append(lists, got.Defaults)
	for i, list := range lists {
		spare := list[:cap(list)]
		for j := range spare {
			spare[j] = strconv.Itoa(i)
		}
	}
	for i, list := range lists {
		if slices.ContainsFunc(list, func(text string) bool { return text != strconv.Itoa(i) }) {
			t.Errorf("R4: list %d shares memory: %v", i, list)
		}
	}
	wantGraph(t, s, again)
}

func TestFromSeveralGoroutines(t *testing.T) {
	var all sync.WaitGroup
	for range 8 {
		all.Go(func() {
			for range 200 {
				wantCommand(t, "x = 1\n"+ruleR+"build o : r i\n", "c i o 1")
				wantForm(t, "x = 1\n"+ruleR+"build o : s i\n")
				wantFull(t, numbered(api.MaxVars+1, "# = 1\n"))
			}
		})
	}
	all.Wait()
}
