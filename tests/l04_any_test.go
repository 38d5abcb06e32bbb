package tests

import (
	"slices"
	"strconv"
	"strings"
	"sync"
	"testing"
	"unsafe"

	"loop.example/g00258/impl"
)

// wantNoProgram asks for a tree that is ended at once, whatever the fuel, and that has no code.
func wantNoProgram(t *testing.T, what string, n impl.Node) {
	t.Helper()
	wantNoCode(t, what, n)
	for _, fuel := range []int{-1 << 63, -1, 0, 1, 2, 10, 1000, muchFuel, 1<<63 - 1} {
		o := impl.Direct(n, fuel)
		if o.Kind != impl.EndFuel || o.Value != (impl.Value{}) || len(o.Out) != 0 {
			t.Fatal(what, "with", fuel, "fuel:", ended(o))
		}
	}
}

// printing is a program that prints ahead of a statement.
func printing(statement impl.Node) impl.Node {
	shout := tree(impl.NkDo, "", tree(impl.NkCall, "", tree(impl.NkName, "print"), tree(impl.NkInt, "")))
	return tree(impl.NkBlock, "", shout, statement)
}

// wantRefusedIn asks for no program, with the expression in each place.
func wantRefusedIn(t *testing.T, exp impl.Node) {
	t.Helper()
	block := tree(impl.NkBlock, "")
	for _, s := range []impl.Node{
		tree(impl.NkLocal, "x", exp),
		tree(impl.NkReturn, "", exp),
		tree(impl.NkIf, "", exp, block),
		tree(impl.NkWhile, "", exp, block),
		tree(impl.NkSet, "", leafName, exp),
		tree(impl.NkSet, "", tree(impl.NkIndex, "", leafName, exp), tree(impl.NkNil, "")),
		tree(impl.NkDo, "", tree(impl.NkCall, "", leafName, exp)),
		tree(impl.NkReturn, "", tree(impl.NkBin, "and", tree(impl.NkNil, ""), exp)),
		tree(impl.NkReturn, "", tree(impl.NkUn, "not", exp)),
		tree(impl.NkReturn, "", inFunction(tree(impl.NkReturn, "", exp))),
	} {
		wantNoProgram(t, outline(s, false), printing(s))
	}
}

func TestExpressionsThatNoProgramHas(t *testing.T) {
	nodeInt := func(n int) impl.Node { return impl.Node{Kind: impl.NkInt, N: n} }
	for _, kind := range []int{-1, 21, 99, -1 << 63, 1<<63 - 1} {
		wantRefusedIn(t, tree(kind, ""))
		wantRefusedIn(t, tree(kind, "a", leafName))
	}
	for _, n := range []int{-1, -7, 1000000000000, 1<<63 - 1, -1 << 63} {
		wantRefusedIn(t, nodeInt(n))
	}
	for _, name := range append([]string{"", " ", "1", "1a", "a b", "a.b", "a-b", "a;", "a -- b", "-- b", "é", "\xff", "a\n", " a", "a ", "(a)", "\"a\"", "a()", "{}", "a[1]"}, keywords...) {
		wantRefusedIn(t, tree(impl.NkName, name))
		wantRefusedIn(t, impl.Node{Kind: impl.NkFunc, Names: []string{name}, Kids: []impl.Node{{}}})
		wantRefusedIn(t, impl.Node{Kind: impl.NkFunc, Names: []string{"b", name}, Kids: []impl.Node{{}}})
		wantNoProgram(t, "local "+name, printing(tree(impl.NkLocal, name)))
		wantNoProgram(t, "local function "+name, printing(tree(impl.NkRec, name, inFunction(tree(impl.NkBreak, "")))))
	}
	wantRefusedIn(t, impl.Node{Kind: impl.NkFunc, Names: []string{"b", "a", "b"}, Kids: []impl.Node{{}}})
	wantRefusedIn(t, impl.Node{Kind: impl.NkFunc, Names: someNames(9), Kids: []impl.Node{{}}})
	wantRefusedIn(t, tree(impl.NkCall, "", slices.Repeat([]impl.Node{leafName}, 10)...))
	for _, op := range []string{"", "?", "=", "not", "#", "and or", "+ 1 +", "==="} {
		wantRefusedIn(t, tree(impl.NkBin, op, leafName, leafName))
	}
	for _, op := range []string{"", "+", "and", "- -", "not not", "~"} {
		wantRefusedIn(t, tree(impl.NkUn, op, leafName))
	}
	for _, n := range []impl.Node{{}, tree(impl.NkBreak, ""), tree(impl.NkReturn, ""), tree(impl.NkDo, "", tree(impl.NkCall, "", leafName))} {
		wantRefusedIn(t, n)
	}
}

// changedOnce tells a tree with one thing about it that no tree of its kind has.
func changedOnce(n impl.Node) []impl.Node {
	var list []impl.Node
	add := func(change func(n *impl.Node)) {
		c := bare(n)
		change(&c)
		list = append(list, c)
	}
	add(func(n *impl.Node) { n.Kids = append(n.Kids, leafName) })
	add(func(n *impl.Node) { n.Kids = append(n.Kids, impl.Node{}, impl.Node{}) })
	add(func(n *impl.Node) { n.Names = append(n.Names, n.Names...); n.Names = append(n.Names, "", "a") })
	if n.Kind != impl.NkInt {
		add(func(n *impl.Node) { n.N = 1 })
	}
	switch n.Kind {
	case impl.NkLocal, impl.NkRec, impl.NkText, impl.NkName:
	default:
		add(func(n *impl.Node) { n.Text += "a" })
	}
	for i := range n.Kids {
		add(func(n *impl.Node) { n.Kids[i] = impl.Node{Kind: 99} })
		add(func(n *impl.Node) { n.Kids = slices.Delete(n.Kids, i, i+1) })
	}
	return list
}

// mayLack asks whether a tree can be one of Parse with a kid less, or more.
func mayLack(n impl.Node) bool {
	return n.Kind == impl.NkBlock || n.Kind == impl.NkLocal || n.Kind == impl.NkReturn || n.Kind == impl.NkIf || n.Kind == impl.NkCall
}

// wantChangesRefused changes each node of a program in turn.
func wantChangesRefused(t *testing.T, whole *impl.Node, at *impl.Node) int {
	t.Helper()
	count := 0
	kept := *at
	for _, c := range changedOnce(kept) {
		if again, line := impl.Read(impl.Show(c)); line == 0 && impl.SameTree(c, again) || mayLack(kept) && len(c.Kids) != len(kept.Kids) {
			continue
		}
		*at = c
		wantNoProgram(t, outline(c, false)+" for "+outline(kept, false), *whole)
		*at = kept
		count++
	}
	for i := range at.Kids {
		count += wantChangesRefused(t, whole, &at.Kids[i])
	}
	return count
}

func TestNodesChanged(t *testing.T) {
	t.Parallel()
	for _, src := range []string{ordinary, everyForm} {
		n, _ := impl.Read(src)
		whole := bare(n)
		if o := impl.Direct(whole, muchFuel); o.Kind == impl.EndFuel {
			t.Fatal("no program as it is", ended(o))
		}
		if count := wantChangesRefused(t, &whole, &whole); count < 400 {
			t.Error("too few changes", count)
		}
	}
}

func TestTreesThatAreReadAsOthers(t *testing.T) {
	block := tree(impl.NkBlock, "")
	shout := printing(block).Kids[0]
	for _, n := range []impl.Node{
		tree(impl.NkName, "nil"), tree(impl.NkName, "a . b"), tree(impl.NkInt, "x"), {Kind: impl.NkInt, N: -1},
	} {
		wantNoProgram(t, "expression", printing(tree(impl.NkReturn, "", n)))
		wantNoProgram(t, "no block", n)
	}
	for _, n := range []impl.Node{
		tree(impl.NkBlock, "", printing(shout)),
		tree(impl.NkBlock, "", shout, block),
		tree(impl.NkBlock, "", shout, leafName),
		tree(impl.NkBlock, "", shout, tree(impl.NkInt, "")),
		tree(impl.NkLocal, "x"), tree(impl.NkBreak, ""), shout, tree(impl.NkReturn, "", leafName), tree(impl.NkSet, "", leafName, leafName),
		inFunction(shout), tree(impl.NkCall, "", tree(impl.NkName, "print")), leafName, tree(99, ""), tree(-1, "", shout),
		printing(tree(impl.NkLocal, "function f ( ) end ; local x")),
		printing(tree(impl.NkLocal, "x ; local y")),
		printing(tree(impl.NkRec, "f", tree(impl.NkNil, ""))),
		printing(tree(impl.NkRec, "f", tree(impl.NkRec, "g", inFunction(shout)))),
		printing(tree(impl.NkDo, "", leafName)),
		printing(tree(impl.NkDo, "", tree(impl.NkIndex, "", leafName, leafName))),
		printing(tree(impl.NkSet, "", tree(impl.NkCall, "", leafName), leafName)),
		printing(tree(impl.NkSet, "", tree(impl.NkInt, ""), leafName)),
		printing(tree(impl.NkSet, "", tree(impl.NkUn, "-", leafName), leafName)),
		printing(tree(impl.NkIf, "", leafName, shout)),
		printing(tree(impl.NkIf, "", leafName, block, block, block)),
		printing(tree(impl.NkIf, "", leafName)),
		printing(tree(impl.NkWhile, "", leafName)),
		printing(tree(impl.NkWhile, "", leafName, block, block)),
		printing(tree(impl.NkWhile, "", leafName, shout)),
		printing(tree(impl.NkBreak, "", leafName)),
		printing(tree(impl.NkReturn, "", leafName, leafName)),
		printing(tree(impl.NkLocal, "x", leafName, leafName)),
		printing(tree(impl.NkDo, "")), printing(tree(impl.NkSet, "", leafName)), printing(tree(impl.NkRec, "f")),
		{Kind: impl.NkBlock, Text: "a"}, {Kind: impl.NkBlock, N: 1}, {Kind: impl.NkBlock, Names: []string{"a"}}, {Kind: impl.NkBlock, Names: []string{""}},
	} {
		wantNoProgram(t, outline(n, false), n)
	}
	n, _ := impl.Read("print(1) return 2")
	n.Names, n.Kids[0].Names, n.Line, n.Kids[1].Line = []string{}, []string{}, -5, 1<<63-1
	n.Kids[1].Kids[0].Kids = []impl.Node{}
	if got := ended(impl.Direct(n, 100)); got != "done 2|1" {
		t.Error("lines, and empty lists:", got)
	}
	if got := ended(impl.Direct(impl.Node{}, 1)); got != "done nil" {
		t.Error("the zero value is a program:", got)
	}
}

func TestTreesTooDeepOrTooLong(t *testing.T) {
	// The block, the return, and so many levels of signs with a leaf below stand one below the other.
	for _, levels := range []int{0, 27, 28, 29, 30, 57, 58, 59, 60, 61, 100, 100000} {
		n := printing(tree(impl.NkReturn, "", down(levels, tree(impl.NkInt, ""))))
		if levels > impl.MaxDepth-2 {
			wantNoProgram(t, strconv.Itoa(levels)+" levels", n)
		} else if got := ended(impl.Direct(n, 100)); got != "done 0|0" {
			t.Error(levels, "levels:", got)
		}
	}
	const around = `print ( 0 ) ; return "" ;`
	for _, length := range []int{0, 1, 100, impl.MaxSource - 1, impl.MaxSource, impl.MaxSource + 1, 3 * impl.MaxSource, 1000000} {
		s := strings.Repeat("x", max(0, length-len(around)))
		n := printing(tree(impl.NkReturn, "", tree(impl.NkText, s)))
		if length > impl.MaxSource {
			wantNoProgram(t, strconv.Itoa(length)+" bytes", n)
		} else if o := impl.Direct(n, 100); o.Value != textOf(s) || len(o.Out) != 1 {
			t.Error(length, "bytes:", ended(o))
		}
	}
	// A source within its bound may have more to show than that.
	full := "print(1)" + strings.Repeat("f()", 600)
	if n, line := impl.Read(full); line != 0 || len(impl.Show(n)) <= impl.MaxSource {
		t.Error("full", line)
	} else {
		wantNoProgram(t, "more to show", n)
	}
	for count := 660; count < 670; count++ {
		n, _ := impl.Read("print(1)" + strings.Repeat(" y=1", count))
		if len(impl.Show(n)) > impl.MaxSource {
			wantNoProgram(t, "more to show", n)
		} else if got := ended(impl.Direct(n, 100)); got != `error "name"|1` {
			t.Error(count, got)
		}
	}
	for _, count := range []int{498, 499} {
		// Statements of 8 bytes with their blank.
		n, _ := impl.Read("print(1)" + strings.Repeat(" y=1", count))
		if got := ended(impl.Direct(n, 100)); (got == `error "name"|1`) != (len(impl.Show(n)) <= impl.MaxSource) {
			t.Error(count, len(impl.Show(n)), got)
		}
	}
}

// Kids may be shared, so that a small tree has more to show than there is room for; or none has an end.
func TestTreesWithoutEnd(t *testing.T) {
	for _, kind := range []int{impl.NkBin, impl.NkCall, impl.NkBlock, impl.NkIf, impl.NkIndex, 99} {
		n := leafName
		for range 200 {
			n = tree(kind, "+", n, n)
		}
		wantNoProgram(t, "shared", n)
		wantNoProgram(t, "shared", printing(tree(impl.NkReturn, "", n)))
		ring := []impl.Node{{Kind: kind, Text: "+"}, {Kind: kind, Text: "+"}}
		ring[0].Kids, ring[1].Kids = ring, ring
		wantNoProgram(t, "ring", ring[0])
		wantNoProgram(t, "ring", impl.Node{Kids: ring})
	}
	long := tree(impl.NkText, strings.Repeat("x", 1000000))
	for range 25 {
		long = tree(impl.NkBin, "..", long, long)
		wantNoProgram(t, "long", printing(tree(impl.NkReturn, "", long)))
	}
	names := impl.Node{Kind: impl.NkFunc, Names: slices.Repeat([]string{strings.Repeat("x", 1000000)}, 100000), Kids: []impl.Node{{}}}
	wantNoProgram(t, "names", printing(tree(impl.NkReturn, "", names)))
}

// doer makes programs that do something: a name's first letter mostly tells what it has, and most errors are caught.
type doer struct {
	dice
	names  []string
	budget int
	inLoop bool
}

func (d *doer) pick(texts ...string) string {
	return texts[d.below(len(texts))]
}

// name is one that stands there and begins with one of these letters; now and then any one.
func (d *doer) name(letters string) string {
	switch d.below(60) {
	case 0:
		return "y"
	case 1:
		return d.pick("print", "error", "try", "a", "f", "i", "t")
	}
	var list []string
	for _, name := range d.names {
		if strings.Contains(letters, name[:1]) {
			list = append(list, name)
		}
	}
	if len(list) == 0 {
		return d.leafFor(letters)
	}
	return d.pick(list...)
}

func (d *doer) leafFor(letters string) string {
	switch letters[0] {
	case 'i':
		return d.pick("0", "1", "2", "7")
	case 't':
		return d.pick("({})", "({})", `("abc")`)
	case 'f':
		return d.pick("print", "print", "print", "try", "error", "(function(a) return a end)")
	}
	return d.pick(`""`, `"a"`, `"xyz"`, "nil", "true", "false", "3", "{}")
}

func (d *doer) block(depth int) string {
	known := len(d.names)
	s := ""
	for count := 1 + d.below(4); count > 0 && d.budget > 0; count-- {
		s += d.statement(depth) + "; "
	}
	d.names = d.names[:known]
	return s
}

func (d *doer) known(name string) string {
	d.names = append(d.names, name)
	return name
}

// body is what stands behind the word function and its name.
func (d *doer) body(depth int) string {
	names := [][]string{nil, {"a"}, {"i"}, {"i", "a"}, {"t", "i"}, {"print"}}[d.below(6)]
	known, inLoop := len(d.names), d.inLoop
	d.names, d.inLoop = append(d.names, names...), false
	s := "(" + strings.Join(names, ", ") + ") " + d.block(depth-1)
	if d.below(2) == 0 {
		s += "return " + d.expression(depth-1) + " "
	}
	d.names, d.inLoop = d.names[:known], inLoop
	return s + "end"
}

func (d *doer) statement(depth int) string {
	d.budget--
	if depth < 0 {
		return "print(" + d.name("iatf") + ")"
	}
	switch d.below(16) {
	case 0, 1:
		value := d.number(depth - 1)
		return "local " + d.known(d.pick("i", "j", "i2")) + " = " + value
	case 2:
		value := d.expression(depth - 1)
		return "local " + d.known(d.pick("a", "b", "print")) + " = " + value
	case 3:
		return "local " + d.known(d.pick("a", "b")) + []string{"", " = {}"}[d.below(2)] + "; local " + d.known(d.pick("t", "t2")) + " = {}"
	case 4, 5:
		return "local function " + d.known(d.pick("f", "g", "f2", "try")) + d.body(depth)
	case 6:
		s := "if " + d.expression(depth-1) + " then " + d.block(depth-1)
		if d.below(2) == 0 {
			s += "else " + d.block(depth-1)
		}
		return s + "end"
	case 7, 8:
		return d.loop(depth)
	case 9:
		if d.inLoop || d.below(8) == 0 {
			return "if " + d.number(depth-1) + " > 2 then break end"
		}
		return "if " + d.number(depth-1) + " > 2 then return " + d.expression(depth-1) + " end"
	case 10:
		return d.pick(append(slices.Clone(d.names), "i", "j", "i2")...) + " = " + d.number(depth-1)
	case 11:
		return d.pick("a", "b", "f") + " = " + d.expression(depth-1)
	case 12:
		return "(" + d.name("t") + ")[" + d.expression(depth-1) + "] = " + d.expression(depth-1)
	case 13:
		return "print(try(function() " + d.block(depth-1) + "end))"
	}
	return "print(" + d.expression(depth-1) + ")"
}

// loop mostly counts its rounds by a name that little within is likely to change.
func (d *doer) loop(depth int) string {
	inLoop := d.inLoop
	d.inLoop = true
	s := ""
	if d.below(10) == 0 {
		s = "while " + d.expression(depth-1) + " do " + d.block(depth-1) + "end"
	} else {
		s = "local " + d.known("i3") + " = 0 while i3 < " + strconv.Itoa(1+d.below(4)) + " do i3 = i3 + 1 " + d.block(depth-1) + "end"
	}
	d.inLoop = inLoop
	return s
}

func (d *doer) number(depth int) string {
	d.budget--
	if depth < 0 || d.budget < 0 {
		return d.name("ij")
	}
	switch d.below(8) {
	case 0, 1:
		return "(" + d.number(depth-1) + " " + d.pick("+", "-", "*", "//", "%") + " " + d.number(depth-1) + ")"
	case 2:
		return "(-" + d.number(depth-1) + ")"
	case 3:
		return "(#" + d.name("t") + ")"
	case 4:
		return "((" + d.name("t") + ")[" + d.number(depth-1) + "] or " + d.number(depth-1) + ")"
	}
	return d.name("ij")
}

func (d *doer) expression(depth int) string {
	d.budget--
	if depth < 0 || d.budget < 0 {
		return d.name(d.pick("i", "a", "t", "f"))
	}
	sub := func() string { return d.expression(depth - 1) }
	switch d.below(18) {
	case 0:
		return "(" + sub() + " " + d.pick("+", "-", "*", "//", "%") + " " + d.number(depth-1) + ")"
	case 1:
		return "(" + d.number(depth-1) + " " + d.pick(compareSigns...) + " " + d.number(depth-1) + ")"
	case 2:
		return "(" + sub() + " " + d.pick("==", "~=", "==", "~=", "<") + " " + sub() + ")"
	case 3:
		return "(" + sub() + " .. " + d.number(depth-1) + ")"
	case 4, 5:
		return "(" + sub() + " " + d.pick("and", "or") + " " + sub() + ")"
	case 6:
		return "(" + d.pick("not", "not", "not", "-", "#") + " " + sub() + ")"
	case 7, 8:
		return "function" + d.body(depth-1)
	case 9, 10:
		return d.name("f") + "(" + sub() + ", " + d.number(depth-1) + ")"
	case 11:
		return d.name("fa") + "()"
	case 12:
		return "(" + d.name("t") + ")[" + sub() + "]"
	case 13:
		return "try(" + d.name("fa") + ")"
	}
	return d.number(depth - 1)
}

// program has several parts, so that an error in one does not keep the others from being done.
func (d *doer) program() string {
	s := ""
	for d.budget > 0 {
		if d.below(6) == 0 {
			s += d.block(5)
		} else {
			s += "print(try(function() " + d.block(5) + "end)); "
		}
	}
	return s
}

func TestAnyPrograms(t *testing.T) {
	t.Parallel()
	var ends [3]int
	words := map[string]int{}
	taken, lines := 0, 0
	for seed := range 2500 {
		d := doer{dice: dice{seed: uint64(seed)}, budget: 10 + seed%90}
		n, line := impl.Read(d.program())
		if line != 0 || len(impl.Show(n)) > impl.MaxSource {
			continue // too long, or too deep
		}
		whole, printed := elderDirect(n, 3000)
		wantSomeFuels(t, n, whole, printed)
		ends[whole.Kind]++
		taken, lines = taken+len(printed), lines+len(whole.Out)
		for _, s := range append(whole.Out, whole.Value.S) {
			words[s]++
		}
	}
	if ends[impl.EndDone] < 1000 || ends[impl.EndError] < 200 || ends[impl.EndFuel] < 10 || taken < 100000 || lines < 5000 {
		t.Error("too little is done:", ends, taken, lines)
	}
	for _, word := range strings.Fields("arith divide compare concat length index call name deep break nil") {
		if words[word] < 10 {
			t.Error("too few of", word, words[word])
		}
	}
}

// wantSomeFuels asks as wantFuels does, but for no more than some fuels.
func wantSomeFuels(t *testing.T, n impl.Node, whole impl.Outcome, printed []int) {
	t.Helper()
	if got := ended(impl.Direct(n, len(printed))); got != ended(whole) {
		t.Fatalf("%.900s\nwith %d fuel: %.300s, not %.300s", impl.Show(n), len(printed), got, ended(whole))
	}
	if got := ended(impl.Direct(n, len(printed)+1+len(printed)%5)); whole.Kind != impl.EndFuel && got != ended(whole) {
		t.Fatalf("%.900s\nwith more than %d fuel: %.300s, not %.300s", impl.Show(n), len(printed), got, ended(whole))
	}
	for fuel := len(printed) - 1; fuel >= 0; fuel -= 1 + fuel/8 {
		wantLess(t, n, whole, printed, fuel)
	}
}

// Promise 13, for this chapter: trees of any make, and of any program's forms, which mostly are refused or end soon.
func TestDirectOfAnyTrees(t *testing.T) {
	t.Parallel()
	g := grower{dice: dice{seed: 11}}
	programs := 0
	for range 4000 {
		n := g.anyNode(4)
		told := outline(n, true)
		o := impl.Direct(n, 100)
		again, line := impl.Read(impl.Show(n))
		if line != 0 || outline(again, false) != outline(n, false) {
			wantNoProgram(t, told, n)
		} else if whole, _ := elderDirect(n, 100); ended(o) != ended(whole) {
			t.Fatal(told, ended(o), ended(whole))
		}
		if outline(n, true) != told {
			t.Fatal("written into", told)
		}
	}
	for range 3000 {
		g.budget = 1 + g.below(60)
		n := g.block(4 + g.below(27))
		if again, line := impl.Read(impl.Show(n)); line != 0 || outline(again, false) != outline(n, false) {
			wantNoProgram(t, outline(n, false), n)
			continue
		}
		programs++
		wantBoth(t, n, 500)
	}
	if programs < 1500 {
		t.Error("too few programs", programs)
	}
}

// textsOf gathers the bytes of all texts and names of a tree.
func textsOf(n impl.Node) []string {
	list := append([]string{n.Text}, n.Names...)
	for _, kid := range n.Kids {
		list = append(list, textsOf(kid)...)
	}
	return list
}

func TestOutcomesAreNewMemory(t *testing.T) {
	for _, src := range []string{
		`print("abc") return "def"`,
		`print("abc") print("abc") error("abc")`,
		`local s = "abcdef" print(s) print(s) print(s[2]) print(s .. "") return s`,
		`local t = {} t["key"] = "value" print(t.key) return t.key`,
		`print(try(function() error("abc") end)) return try(function() error("def") end)`,
		`local function f(x) print(x) return x end return f(f("abc"))`,
		`print(1) while true do print("abc") end`,
		everyForm,
	} {
		n, line := impl.Read(src)
		if line != 0 {
			t.Fatal("line", line, src)
		}
		given := bare(n)
		told := outline(given, true)
		o := impl.Direct(given, 5000)
		other := impl.Direct(given, 5000)
		want := ended(o)
		parts := append(slices.Clone(o.Out), o.Value.S)
		seen := map[*byte]bool{}
		for _, part := range parts {
			// Short numbers, and what values without a text are shown as, are the language's own.
			if len(part) < 3 || slices.Contains(strings.Fields("nil true false table function"), part) {
				continue
			}
			for _, whole := range append(textsOf(given), other.Out...) {
				if sharesBytes(part, whole) {
					t.Fatalf("%.100q: the bytes of %q are shared", src, part)
				}
			}
			if seen[unsafe.StringData(part)] {
				t.Fatalf("%.100q: the bytes of %q stand there twice", src, part)
			}
			seen[unsafe.StringData(part)] = true
		}
		_ = append(other.Out, "behind")
		for i := range other.Out {
			other.Out[i] = "spoilt"
		}
		if outline(given, true) != told {
			t.Fatal("written into", told)
		}
		spoil(&given)
		if ended(o) != want || ended(impl.Direct(n, 5000)) != want {
			t.Fatal("another answer", src)
		}
	}
}

// What is behind the lists of a tree stays, too.
func TestDirectLeavesRoomAlone(t *testing.T) {
	n, _ := impl.Read(everyForm)
	given := withRoom(n)
	impl.Direct(given, muchFuel)
	wantRoom(t, given)
	if outline(given, true) != outline(n, true) {
		t.Error("written into the tree")
	}
}

func withRoom(n impl.Node) impl.Node {
	var kids []impl.Node
	for _, kid := range n.Kids {
		kids = append(kids, withRoom(kid))
	}
	count, names := len(kids), len(n.Names)
	n.Kids = append(kids, tree(77, "behind"), tree(77, "behind"))[:count]
	n.Names = append(slices.Clone(n.Names), "behind", "behind")[:names]
	return n
}

func wantRoom(t *testing.T, n impl.Node) {
	t.Helper()
	for _, kid := range n.Kids[len(n.Kids) : len(n.Kids)+2] {
		if kid.Kind != 77 || kid.Text != "behind" {
			t.Fatal("written behind the kids of", outline(n, false))
		}
	}
	for _, name := range n.Names[len(n.Names) : len(n.Names)+2] {
		if name != "behind" {
			t.Fatal("written behind the names of", outline(n, false))
		}
	}
	for _, kid := range n.Kids {
		wantRoom(t, kid)
	}
}

// Nothing is kept from call to call, nor between two at the same time.
func TestDirectKeepsNothing(t *testing.T) {
	n, _ := impl.Read(everyForm)
	want := ended(impl.Direct(n, muchFuel))
	var all sync.WaitGroup
	for worker := range 8 {
		all.Go(func() {
			for round := range 20 {
				d := doer{dice: dice{seed: uint64(worker*100 + round)}, budget: 30}
				other, _ := impl.Read(d.block(5))
				impl.Direct(other, 200)
				if ended(impl.Direct(n, muchFuel)) != want {
					t.Error("another answer")
				}
			}
		})
	}
	all.Wait()
}
