package tests

import (
	"fmt"
	"math"
	"slices"
	"strings"
	"sync"
	"testing"
	"unsafe"

	"loop.example/g00258/impl"
)

func wantText(t *testing.T, list []impl.Proto, want string) {
	t.Helper()
	if got := impl.CodeText(list); got != want {
		t.Errorf("CodeText of\n%s\nis\n%q\nnot\n%q", codeWords(list), got, want)
	}
}

func TestCodeText(t *testing.T) {
	wantText(t, nil, "")
	wantText(t, []impl.Proto{}, "")
	wantText(t, []impl.Proto{{}}, "proto 0 0 0\n")
	wantText(t, []impl.Proto{{}, {Params: 1, Slots: 2}}, "proto 0 0 0\nproto 1 1 2\n")
	wantText(t, []impl.Proto{{Ups: []impl.Up{{Local: true, At: 3}, {At: 0}, {At: 12}, {Local: true}}}}, "proto 0 0 0 l 3 u 0 u 12 l 0\n")
	wantText(t, []impl.Proto{{Names: []impl.Name{{Text: "a", Slot: 1, From: 2, To: 3}}}}, "proto 0 0 0\n")
	wantText(t, []impl.Proto{{Code: []impl.Instr{{}, {Op: impl.OpRaise, A: 2, V: intOf(3), S: "name", Line: 4}}}}, "proto 0 0 0\n0 0 0 0 nil \n1 19 2 4 3 name\n")
	wantText(t, []impl.Proto{{Params: -1, Slots: math.MinInt, Ups: []impl.Up{{At: -7}, {Local: true, At: math.MaxInt}}, Code: []impl.Instr{{Op: -20, A: math.MinInt, Line: math.MaxInt}}}},
		"proto 0 -1 -9223372036854775808 u -7 l 9223372036854775807\n0 -20 -9223372036854775808 9223372036854775807 nil \n")
	for _, v := range anyValues() {
		wantText(t, []impl.Proto{{Code: []impl.Instr{{V: v}}}}, "proto 0 0 0\n0 0 0 0 "+impl.ShowValue(v)+" \n")
	}
	for _, s := range []string{"", " ", "a", "\n", "\x00\xff", "a b\n0 1 2", "é", strings.Repeat("x", 10000)} {
		wantText(t, []impl.Proto{{Code: []impl.Instr{{V: textOf(s), S: s}, {S: s}}}}, "proto 0 0 0\n0 0 0 0 "+s+" "+s+"\n1 0 0 0 nil "+s+"\n")
	}
	for _, c := range [][2]string{
		{"", "proto 0 0 0\n0 0 0 0 nil \n1 18 0 0 nil \n"},
		{"local x = 12", "proto 0 0 1\n0 0 0 1 12 \n1 5 0 1 nil \n2 0 0 1 nil \n3 18 0 1 nil \n"},
		{"\nreturn \"a\\nb\" .. -x", "proto 0 0 0\n0 0 0 2 a\nb \n1 19 0 2 nil name\n2 12 0 2 nil -\n3 11 0 2 nil ..\n4 18 0 2 nil \n5 0 0 2 nil \n6 18 0 2 nil \n"},
		{"local a\nreturn function(b)\nreturn function() a = b end end",
			"proto 0 0 1\n0 0 0 1 nil \n1 5 0 1 nil \n2 9 1 2 nil \n3 18 0 2 nil \n4 0 0 1 nil \n5 18 0 1 nil \n" +
				"proto 1 1 1 l 0\n0 9 2 3 nil \n1 18 0 3 nil \n2 0 0 3 nil \n3 18 0 3 nil \n" +
				"proto 2 0 0 l 0 u 0\n0 2 0 3 nil \n1 4 1 3 nil \n2 0 0 3 nil \n3 18 0 3 nil \n"},
	} {
		n, line := impl.Read(c[0])
		list, ok := impl.Compile(n)
		if line != 0 || !ok {
			t.Fatal("no program", c[0])
		}
		wantText(t, list, c[1])
	}
}

// textByForms tells a list of protos by the form of each line.
func textByForms(list []impl.Proto) string {
	s := ""
	for number, p := range list {
		s += fmt.Sprintf("proto %d %d %d", number, p.Params, p.Slots)
		for _, up := range p.Ups {
			s += fmt.Sprintf(" %c %d", map[bool]rune{true: 'l', false: 'u'}[up.Local], up.At)
		}
		s += "\n"
		for place, in := range p.Code {
			s += fmt.Sprintf("%d %d %d %d %s %s\n", place, in.Op, in.A, in.Line, impl.ShowValue(in.V), in.S)
		}
	}
	return s
}

// rightByBounds tells whether a list is as CodeOk wants it, by the least and the greatest A of each Op.
func rightByBounds(list []impl.Proto) bool {
	if len(list) == 0 || list[0].Params != 0 || len(list[0].Ups) > 0 {
		return false
	}
	for _, p := range list {
		if p.Params < 0 || p.Params > p.Slots || p.Slots > 200 {
			return false
		}
		bounds := boundsOf(list, p)
		for _, in := range p.Code {
			if in.Op < 0 || in.Op >= len(bounds) || in.A < bounds[in.Op][0] || in.A > bounds[in.Op][1] {
				return false
			}
		}
	}
	return true
}

func boundsOf(list []impl.Proto, p impl.Proto) [20][2]int {
	var bounds [20][2]int
	for op := range bounds {
		bounds[op] = [2]int{math.MinInt, math.MaxInt}
	}
	for _, op := range []int{1, 3, 5} {
		bounds[op] = [2]int{0, p.Slots - 1}
	}
	for _, op := range []int{2, 4} {
		bounds[op] = [2]int{0, len(p.Ups) - 1}
	}
	for _, op := range []int{13, 14, 15, 16} {
		bounds[op] = [2]int{0, len(p.Code)}
	}
	bounds[9], bounds[10] = [2]int{1, len(list) - 1}, [2]int{0, 8}
	return bounds
}

func wantOk(t *testing.T, list []impl.Proto, want bool) {
	t.Helper()
	if got := impl.CodeOk(list); got != want || rightByBounds(list) != want {
		t.Errorf("CodeOk of\n%s\nis %v, not %v", codeWords(list), got, want)
	}
}

func wantByBounds(t *testing.T, list []impl.Proto) {
	t.Helper()
	if got := impl.CodeOk(list); got != rightByBounds(list) {
		t.Fatalf("CodeOk is %v of\n%s", got, codeWords(list))
	}
}

func TestCodeOkOfProtos(t *testing.T) {
	wantOk(t, nil, false)
	wantOk(t, []impl.Proto{}, false)
	wantOk(t, []impl.Proto{{}}, true)
	wantOk(t, []impl.Proto{{}, {}, {}}, true)
	wantOk(t, []impl.Proto{{Params: 1, Slots: 1}}, false)
	wantOk(t, []impl.Proto{{Params: -1}}, false)
	wantOk(t, []impl.Proto{{Ups: []impl.Up{{}}}}, false)
	wantOk(t, []impl.Proto{{Ups: []impl.Up{}}}, true)
	wantOk(t, []impl.Proto{{}, {Ups: []impl.Up{{At: -1}, {Local: true, At: 999}}}}, true)
	wantOk(t, []impl.Proto{{Names: []impl.Name{{Text: "\xff", Slot: -1, From: 99, To: -5}}}}, true)
	for _, slots := range []int{math.MinInt, math.MinInt + 1, -201, -2, -1, 0, 1, 2, 8, 199, 200, 201, 202, 1000, math.MaxInt} {
		wantOk(t, []impl.Proto{{Slots: slots}}, slots >= 0 && slots <= 200)
		wantOk(t, []impl.Proto{{}, {Slots: slots}}, slots >= 0 && slots <= 200)
		for _, params := range []int{math.MinInt, -1, 0, 1, 2, 8, 9, 199, 200, 201, math.MaxInt, slots - 1, slots, slots + 1} {
			want := params >= 0 && params <= slots && slots <= 200
			wantOk(t, []impl.Proto{{Params: params, Slots: slots}}, want && params == 0)
			wantOk(t, []impl.Proto{{}, {Params: params, Slots: slots}}, want)
			wantOk(t, []impl.Proto{{}, {}, {Params: params, Slots: slots}}, want)
			wantOk(t, []impl.Proto{{}, {Params: params, Slots: slots}, {}}, want)
		}
	}
}

// inProto puts an instruction into the middle of a proto's code, which stands in the middle of a list.
func inProto(in impl.Instr) []impl.Proto {
	return []impl.Proto{{}, {Params: 1, Slots: 3, Ups: []impl.Up{{}, {}}, Code: []impl.Instr{{}, {Op: impl.OpPop}, in, {Op: impl.OpReturn}, {}}}, {}, {}}
}

// Each limit is met exactly, and passed by one.
func TestCodeOkOfInstructions(t *testing.T) {
	for op, bounds := range map[int][2]int{
		impl.OpLocal: {0, 2}, impl.OpSetLocal: {0, 2}, impl.OpNew: {0, 2},
		impl.OpUp: {0, 1}, impl.OpSetUp: {0, 1},
		impl.OpFunc: {1, 3}, impl.OpCall: {0, 8},
		impl.OpJump: {0, 5}, impl.OpFalse: {0, 5}, impl.OpAnd: {0, 5}, impl.OpOr: {0, 5},
	} {
		for a := bounds[0]; a <= bounds[1]; a++ {
			wantOk(t, inProto(impl.Instr{Op: op, A: a}), true)
			wantOk(t, inProto(impl.Instr{Op: op, A: a, V: behind, S: "\xff", Line: -1}), true)
		}
		for _, a := range []int{bounds[0] - 1, bounds[1] + 1, math.MinInt, math.MaxInt} {
			wantOk(t, inProto(impl.Instr{Op: op, A: a}), false)
			for at := range 3 {
				// Wherever it stands, and whatever else is there.
				list := []impl.Proto{{}, {}, {}, {}}
				list[at] = impl.Proto{Slots: 3, Code: []impl.Instr{{}, {Op: op, A: a}, {}, {}, {}}}
				wantOk(t, list, false)
			}
		}
	}
	for _, op := range []int{impl.OpPush, impl.OpIndex, impl.OpPut, impl.OpTable, impl.OpBin, impl.OpUn, impl.OpPop, impl.OpReturn, impl.OpRaise} {
		for _, a := range []int{0, 1, -1, 99, math.MinInt, math.MaxInt} {
			wantOk(t, inProto(impl.Instr{Op: op, A: a}), true)
			wantOk(t, []impl.Proto{{Code: []impl.Instr{{Op: op, A: a, V: behind, S: "?"}}}}, true)
		}
	}
	for _, op := range []int{-1, -2, 20, 21, 99, math.MinInt, math.MaxInt} {
		for _, a := range []int{0, 1, -1} {
			wantOk(t, inProto(impl.Instr{Op: op, A: a}), false)
			wantOk(t, []impl.Proto{{Code: []impl.Instr{{Op: op, A: a}}}}, false)
		}
	}
	// What a proto lacks it has no number for; its own limits count, not those of another one.
	for _, op := range []int{impl.OpLocal, impl.OpSetLocal, impl.OpNew, impl.OpUp, impl.OpSetUp, impl.OpFunc} {
		wantOk(t, []impl.Proto{{Code: []impl.Instr{{Op: op}}}}, false)
		wantOk(t, []impl.Proto{{}, {Code: []impl.Instr{{Op: op}}}, {Slots: 5, Ups: []impl.Up{{}}}}, false)
	}
	wantOk(t, []impl.Proto{{Code: []impl.Instr{{Op: impl.OpFunc, A: 1}}}}, false)
	wantOk(t, []impl.Proto{{Code: []impl.Instr{{Op: impl.OpFunc, A: 1}}}, {}}, true)
	wantOk(t, []impl.Proto{{}, {Code: []impl.Instr{{Op: impl.OpFunc, A: 1}}}}, true)
	wantOk(t, []impl.Proto{{Code: []impl.Instr{{Op: impl.OpJump, A: 1}}}, {Code: make([]impl.Instr, 5)}}, true)
	wantOk(t, []impl.Proto{{Code: []impl.Instr{{Op: impl.OpJump, A: 2}}}, {Code: make([]impl.Instr, 5)}}, false)
	for _, a := range []int{199, 200} {
		wantOk(t, []impl.Proto{{Slots: 200, Code: []impl.Instr{{Op: impl.OpNew, A: a}}}}, a == 199)
		wantOk(t, []impl.Proto{{}, {Ups: make([]impl.Up, 200), Code: []impl.Instr{{Op: impl.OpSetUp, A: a}}}}, a == 199)
	}
}

// near is mostly a small number.
func (d *dice) near(most int) int {
	if d.below(40) == 0 {
		return []int{-1, -2, 999, math.MinInt, math.MaxInt}[d.below(5)]
	}
	return d.below(most + 1)
}

func (d *dice) anyProto(first bool) impl.Proto {
	values := anyValues()
	texts := []string{"", "+", "name", "\xff", "a\nb"}
	p := impl.Proto{Slots: d.near(4)}
	if !first {
		p.Params = d.below(max(1, min(p.Slots+1, 5)))
	}
	for range d.below(3) {
		if !first || d.below(20) == 0 {
			p.Ups = append(p.Ups, impl.Up{Local: d.below(2) == 0, At: d.near(4)})
		}
	}
	for range d.below(5) {
		in := impl.Instr{Op: d.near(19), A: d.near(2), V: values[d.below(len(values))], S: texts[d.below(len(texts))], Line: d.near(9)}
		p.Code = append(p.Code, in)
	}
	for range d.below(3) {
		p.Names = append(p.Names, impl.Name{Text: texts[d.below(len(texts))], Slot: d.near(3), From: d.near(3), To: d.near(3)})
	}
	return p
}

// roomyProtos puts what can be known again into spare room behind each list of a copy.
func roomyProtos(list []impl.Proto) []impl.Proto {
	var out []impl.Proto
	for _, p := range list {
		p.Ups = append(slices.Clone(p.Ups), impl.Up{At: 77})[:len(p.Ups)]
		p.Code = append(slices.Clone(p.Code), impl.Instr{Op: 77})[:len(p.Code)]
		p.Names = append(slices.Clone(p.Names), impl.Name{Text: "behind"})[:len(p.Names)]
		out = append(out, p)
	}
	return append(out, impl.Proto{Params: 77})[:len(list)]
}

func protosRoomIsKept(list []impl.Proto) bool {
	for _, p := range list {
		up, in, v := p.Ups[:len(p.Ups)+1][len(p.Ups)], p.Code[:len(p.Code)+1][len(p.Code)], p.Names[:len(p.Names)+1][len(p.Names)]
		if up != (impl.Up{At: 77}) || in != (impl.Instr{Op: 77}) || v != (impl.Name{Text: "behind"}) {
			return false
		}
	}
	return list[:len(list)+1][len(list)].Params == 77
}

// allWords tells everything about a list of protos.
func allWords(list []impl.Proto) string {
	return codeWords(list) + "\n" + codeLines(list)
}

// Promise 13, for this chapter: lists of any make, of which some are right.
func TestAnyCode(t *testing.T) {
	t.Parallel()
	d := dice{seed: 51}
	right, wrong := 0, 0
	for range 60000 {
		var list []impl.Proto
		for range d.below(4) {
			list = append(list, d.anyProto(len(list) == 0))
		}
		roomy := roomyProtos(list)
		told := allWords(list)
		ok, text := impl.CodeOk(roomy), impl.CodeText(roomy)
		wantByBounds(t, list)
		if text != textByForms(list) {
			t.Fatalf("CodeText is %q of\n%s", text, told)
		}
		if allWords(roomy) != told || allWords(list) != told || !protosRoomIsKept(roomy) {
			t.Fatal("written into", told)
		}
		if ok {
			right++
		} else {
			wrong++
		}
	}
	if right < 10000 || wrong < 10000 {
		t.Error("too few of a kind:", right, wrong)
	}
}

// One thing changed in a program's code makes it right or wrong by the bounds alone.
func TestCodeChanged(t *testing.T) {
	n, _ := impl.Read(everyForm)
	list, _ := impl.Compile(n)
	wantOk(t, list, true)
	for i := range list {
		p := &list[i]
		for at := range p.Code {
			kept := p.Code[at]
			for _, a := range []int{-1, 0, 1, 8, 9, p.Slots - 1, p.Slots, len(p.Ups) - 1, len(p.Ups), len(p.Code), len(p.Code) + 1, len(list) - 1, len(list)} {
				p.Code[at].A = a
				wantByBounds(t, list)
			}
			p.Code[at] = kept
			for op := -1; op <= 20; op++ {
				p.Code[at].Op = op
				wantByBounds(t, list)
			}
			p.Code[at] = kept
		}
	}
	wantOk(t, list, true)
}

// chooser makes programs that name much: some of few names, in blocks and functions within each other.
type chooser struct {
	dice
	budget int
}

func (c *chooser) name() string {
	return []string{"a", "b", "c", "d", "print", "error", "try"}[c.below(7)]
}

func (c *chooser) block(depth int, inLoop bool) string {
	s := ""
	for count := c.below(5); count > 0 && c.budget > 0; count-- {
		s += c.statement(depth-1, inLoop) + "; "
	}
	return s
}

func (c *chooser) function(depth int) string {
	return "(" + []string{"", "a", "b, a", "c, print, d"}[c.below(4)] + ") " + c.block(depth-1, false) + "end"
}

func (c *chooser) statement(depth int, inLoop bool) string {
	c.budget--
	if depth < 0 {
		return c.name() + " = " + c.name()
	}
	switch c.below(11) {
	case 0, 1:
		return "local " + c.name() + " = " + c.expression(depth-1)
	case 2:
		return "local " + c.name()
	case 3:
		return "local function " + c.name() + c.function(depth)
	case 4:
		return "if " + c.expression(depth-1) + " then " + c.block(depth, inLoop) + []string{"", "else " + c.block(depth, inLoop)}[c.below(2)] + "end"
	case 5:
		return "while " + c.expression(depth-1) + " do " + c.block(depth, true) + "end"
	case 6:
		return "break"
	case 7:
		return "return " + c.expression(depth-1)
	case 8:
		return c.name() + "[" + c.expression(depth-1) + "] = " + c.expression(depth-1)
	case 9:
		return c.name() + "(" + c.expression(depth-1) + ")"
	}
	return c.name() + " = " + c.expression(depth-1)
}

func (c *chooser) expression(depth int) string {
	c.budget--
	if depth < 0 || c.budget < 0 {
		return c.name()
	}
	switch c.below(6) {
	case 0, 1:
		return "function" + c.function(depth)
	case 2:
		return "(" + c.expression(depth-1) + []string{" and ", " or ", " .. ", " + "}[c.below(4)] + c.expression(depth-1) + ")"
	case 3:
		return "(" + c.expression(depth-1) + ")(" + c.name() + ", " + c.expression(depth-1) + ")"
	}
	return c.name()
}

func TestCodeOfAnyNames(t *testing.T) {
	t.Parallel()
	ups, deeper, again := 0, 0, 0
	for seed := range 6000 {
		c := chooser{dice: dice{seed: uint64(seed)}, budget: 10 + seed%120}
		src := ""
		for c.budget > 0 {
			src += c.block(12, false)
		}
		n, line := impl.Read(src)
		if line != 0 || len(impl.Show(n)) > impl.MaxSource {
			continue // too deep, or too long
		}
		for _, p := range wantRight(t, n) {
			for _, up := range p.Ups {
				ups++
				if !up.Local {
					deeper++
				}
			}
			again += len(p.Names) - p.Slots
		}
		if seed%10 == 0 {
			wantShownAgain(t, n)
		}
	}
	if ups < 10000 || deeper < 2000 || again < 2000 {
		t.Error("too few are named:", ups, deeper, again)
	}
}

// Promise 5 by what code does: done step by step it ends as the tree does.
func TestCodeOfAnyPrograms(t *testing.T) {
	t.Parallel()
	n, _ := impl.Read(everyForm)
	wantRight(t, n)
	wantShownAgain(t, n)
	if o := wantSteps(t, n, muchFuel); o.Kind != impl.EndDone {
		t.Error(ended(o))
	}
	var ends [3]int
	for seed := range 1500 {
		d := doer{dice: dice{seed: uint64(seed)}, budget: 10 + seed%90}
		n, line := impl.Read(d.program())
		if line != 0 || len(impl.Show(n)) > impl.MaxSource {
			continue
		}
		wantRight(t, n)
		ends[wantSteps(t, n, 3000).Kind]++
		if seed%10 == 0 {
			wantShownAgain(t, n)
		}
	}
	if ends[impl.EndDone] < 600 || ends[impl.EndError] < 100 {
		t.Error("too few end:", ends)
	}
}

// Trees of any make have code where they are programs, whatever their lines are.
func TestCodeOfAnyTrees(t *testing.T) {
	t.Parallel()
	g := grower{dice: dice{seed: 52}}
	programs := 0
	for round := range 8000 {
		g.budget = 1 + g.below(60)
		n := g.anyNode(4)
		if round%2 == 0 {
			n = g.block(4 + g.below(27))
		}
		next := g.below(9) - 4
		n = lined(n, &next)
		if again, line := impl.Read(impl.Show(n)); line != 0 || outline(again, false) != outline(n, false) {
			wantNoCode(t, outline(n, true), n)
			continue
		}
		programs++
		wantRight(t, n)
	}
	if programs < 2000 {
		t.Error("too few programs", programs)
	}
}

// wantNoCode asks for nothing and false; wantNoProgram asks for it, too, of all trees that Direct ends at once.
func wantNoCode(t *testing.T, what string, n impl.Node) {
	t.Helper()
	if list, ok := impl.Compile(n); ok || len(list) != 0 {
		t.Fatalf("%.900s has code: %.900s", what, codeWords(list))
	}
}

func TestTreesWithoutCode(t *testing.T) {
	block, nought := tree(impl.NkBlock, ""), tree(impl.NkInt, "")
	returned := func(exp impl.Node) impl.Node { return tree(impl.NkBlock, "", tree(impl.NkReturn, "", exp)) }
	for _, n := range []impl.Node{
		{Kind: -1}, {Kind: 21}, {Kind: math.MinInt}, {Kind: math.MaxInt}, tree(impl.NkBlock, "", impl.Node{Kind: 21}), returned(tree(99, "")),
		tree(impl.NkBreak, ""), tree(impl.NkReturn, ""), leafName, nought, inFunction(tree(impl.NkBreak, "")), tree(impl.NkBin, ""), tree(impl.NkCall, ""),
		tree(impl.NkBlock, "", block), tree(impl.NkBlock, "", leafName), returned(block), returned(tree(impl.NkBreak, "")),
		returned(tree(impl.NkBin, "+", nought)), returned(tree(impl.NkBin, "+", nought, nought, nought)), returned(tree(impl.NkUn, "-")), returned(tree(impl.NkUn, "-", nought, nought)),
		returned(tree(impl.NkIndex, "", leafName)), returned(tree(impl.NkCall, "")), returned(tree(impl.NkFunc, "")), returned(tree(impl.NkInt, "", nought)),
		tree(impl.NkBlock, "", tree(impl.NkIf, "", nought)), tree(impl.NkBlock, "", tree(impl.NkIf, "", nought, block, block, block)),
		tree(impl.NkBlock, "", tree(impl.NkWhile, "", nought)), tree(impl.NkBlock, "", tree(impl.NkSet, "", leafName)), tree(impl.NkBlock, "", tree(impl.NkSet, "", nought, nought)),
		tree(impl.NkBlock, "", tree(impl.NkDo, "")), tree(impl.NkBlock, "", tree(impl.NkDo, "", leafName)), tree(impl.NkBlock, "", tree(impl.NkRec, "f")), tree(impl.NkBlock, "", tree(impl.NkRec, "f", nought)),
		tree(impl.NkBlock, "", tree(impl.NkLocal, "x", nought, nought)), tree(impl.NkBlock, "", tree(impl.NkLocal, "")), tree(impl.NkBlock, "", tree(impl.NkLocal, "end")), tree(impl.NkBlock, "", tree(impl.NkLocal, "x ; local y")),
		returned(tree(impl.NkName, "nil")), returned(tree(impl.NkName, "a b")), returned(tree(impl.NkName, "")), returned(tree(impl.NkName, "\xff")), returned(tree(impl.NkName, "1")), returned(tree(impl.NkName, "a . b")),
		returned(tree(impl.NkBin, "?", nought, nought)), returned(tree(impl.NkUn, "+", nought)), returned(tree(impl.NkCall, "", slices.Repeat([]impl.Node{leafName}, 10)...)),
		returned(impl.Node{Kind: impl.NkInt, N: -1}), returned(impl.Node{Kind: impl.NkInt, N: 1000000000000}), returned(impl.Node{Kind: impl.NkNil, N: 1}), returned(tree(impl.NkTrue, "a")),
		returned(impl.Node{Kind: impl.NkFunc, Names: []string{"a", "a"}, Kids: []impl.Node{block}}), returned(impl.Node{Kind: impl.NkFunc, Names: someNames(9), Kids: []impl.Node{block}}),
		returned(tree(impl.NkBin, "and", tree(impl.NkNil, ""), tree(impl.NkBin, "", nought, nought))),
		{Kind: impl.NkBlock, Text: "a"}, {Kind: impl.NkBlock, N: 1}, {Kind: impl.NkBlock, Names: []string{""}},
	} {
		wantNoCode(t, outline(n, false), n)
	}
	for _, levels := range []int{28, 29, 57, 58, 59, 60, 61, 1000} {
		n := returned(down(levels, nought))
		if levels > impl.MaxDepth-2 {
			wantNoCode(t, fmt.Sprint(levels, " levels"), n)
		} else {
			wantRight(t, n)
		}
	}
	const around = `return "" ;`
	for _, length := range []int{impl.MaxSource, impl.MaxSource + 1, 3 * impl.MaxSource} {
		n := returned(textNode(strings.Repeat("x", length-len(around))))
		if length > impl.MaxSource {
			wantNoCode(t, fmt.Sprint(length, " bytes"), n)
		} else {
			wantRight(t, n)
		}
	}
	shared := leafName
	for range 200 {
		shared = tree(impl.NkBin, "+", shared, shared)
	}
	wantNoCode(t, "shared", returned(shared))
	ring := []impl.Node{{Kind: impl.NkBlock}}
	ring[0].Kids = ring
	wantNoCode(t, "ring", ring[0])
	if list, ok := impl.Compile(impl.Node{}); !ok || codeWords(list) != "0/0: push nil; return" {
		t.Error("the zero value is a program:", codeWords(list))
	}
}

func textNode(s string) impl.Node { return tree(impl.NkText, s) }

// codeTexts gathers all texts of a list of protos.
func codeTexts(list []impl.Proto) []string {
	var out []string
	for _, p := range list {
		for _, in := range p.Code {
			out = append(out, in.V.S, in.S)
		}
		for _, v := range p.Names {
			out = append(out, v.Text)
		}
	}
	return out
}

// spoilProtos writes into every list of an answer, and behind it.
func spoilProtos(list []impl.Proto) {
	for i := range list {
		p := &list[i]
		_, _, _ = append(p.Ups, impl.Up{At: -9}), append(p.Code, impl.Instr{Op: -9}), append(p.Names, impl.Name{Slot: -9})
		for at := range p.Ups {
			p.Ups[at].At = -9
		}
		for at := range p.Code {
			p.Code[at].Op = -9
		}
		for at := range p.Names {
			p.Names[at].Slot = -9
		}
		p.Slots = -9
	}
	_ = append(list, impl.Proto{Params: -9})
}

func TestCodeIsNewMemory(t *testing.T) {
	for _, src := range []string{everyForm, ordinary, "local abc = \"def\" abc.ghi = abc .. \"def\" abc = jkl", "local a local b return function(c, d) return function() a = b .. c .. d end end"} {
		n, line := impl.Read(src)
		if line != 0 {
			t.Fatal("line", line, src)
		}
		given := withRoom(n)
		told := outline(given, true)
		first, _ := impl.Compile(given)
		second, _ := impl.Compile(given)
		wantRoom(t, given)
		want, tree := allWords(first), append(textsOf(given), textsOf(n)...)
		for _, part := range codeTexts(first) {
			// Errors' words are the language's own.
			if part == "" || part == "name" || part == "break" {
				continue
			}
			for _, whole := range append(codeTexts(second), tree...) {
				if sharesBytes(part, whole) {
					t.Fatalf("%.100q: the bytes of %q are shared", src, part)
				}
			}
		}
		spoilEachProto(t, second)
		spoilProtos(second)
		if allWords(first) != want || outline(given, true) != told {
			t.Fatal("two answers, or an answer and its argument, share memory", src)
		}
		spoil(&given)
		third, _ := impl.Compile(n)
		if allWords(first) != want || allWords(third) != want {
			t.Fatal("an answer changes with its argument", src)
		}
	}
}

// spoilEachProto writes behind each list of an answer, and holds the others against what they were.
func spoilEachProto(t *testing.T, list []impl.Proto) {
	t.Helper()
	want := allWords(list)
	for _, p := range list {
		_, _, _ = append(p.Ups, impl.Up{At: -9}), append(p.Code, impl.Instr{Op: -9}), append(p.Names, impl.Name{Slot: -9})
		if allWords(list) != want {
			t.Fatal("two lists of an answer share memory")
		}
	}
	// The first items of no two lists stand in the same place.
	seen := map[unsafe.Pointer]bool{}
	for i := range list {
		p := &list[i]
		for _, at := range []unsafe.Pointer{unsafe.Pointer(unsafe.SliceData(p.Ups)), unsafe.Pointer(unsafe.SliceData(p.Code)), unsafe.Pointer(unsafe.SliceData(p.Names))} {
			if at != nil && seen[at] {
				t.Fatal("two lists of an answer stand in the same place")
			}
			seen[at] = true
		}
	}
}

// Nothing is kept from call to call, nor between two at the same time.
func TestCompileKeepsNothing(t *testing.T) {
	n, _ := impl.Read(everyForm)
	first, _ := impl.Compile(n)
	want, text := allWords(first), impl.CodeText(first)
	var all sync.WaitGroup
	for worker := range 8 {
		all.Go(func() {
			for round := range 20 {
				c := chooser{dice: dice{seed: uint64(worker*100 + round)}, budget: 30}
				other, _ := impl.Read(c.block(5, false))
				impl.Compile(other)
				list, ok := impl.Compile(n)
				if !ok || allWords(list) != want || impl.CodeText(list) != text || !impl.CodeOk(first) {
					t.Error("another answer")
				}
			}
		})
	}
	all.Wait()
}
