package tests

import (
	"maps"
	"slices"
	"strconv"
	"strings"
	"testing"

	"loop.example/g00258/impl"
)

// elderCoder goes over a tree twice: first it tells what each step names, makes or goes to, then it numbers all these. A second opinion.
type elderCoder struct {
	protos []*elderProto
}

type elderProto struct {
	parent *elderProto
	number int
	params int
	slots  int
	names  []*elderName
	steps  []elderStep
}

type elderName struct {
	impl.Name
	of   *elderProto
	gone bool
}

type elderPlace struct{ at int }

type elderStep struct {
	impl.Instr
	names *elderName
	makes *elderProto
	goes  *elderPlace
}

func elderCompile(n impl.Node) []impl.Proto {
	var c elderCoder
	c.function(nil, nil, n, map[string]*elderName{})
	var list []impl.Proto
	for _, p := range c.protos {
		list = append(list, p.numbered())
	}
	return list
}

func (c *elderCoder) function(parent *elderProto, params []string, block impl.Node, around map[string]*elderName) *elderProto {
	p := &elderProto{parent: parent, number: len(c.protos), params: len(params)}
	c.protos = append(c.protos, p)
	names := maps.Clone(around)
	for _, param := range params {
		names[param] = p.name(param)
	}
	c.block(p, block, names, nil)
	p.end(0)
	p.step(block, impl.OpPush)
	p.step(block, impl.OpReturn)
	return p
}

// name takes the least slot that no name has which is still there.
func (p *elderProto) name(text string) *elderName {
	v := &elderName{Name: impl.Name{Text: text, From: len(p.steps)}, of: p}
	var taken []int
	for _, other := range p.names {
		if !other.gone {
			taken = append(taken, other.Slot)
		}
	}
	for slices.Contains(taken, v.Slot) {
		v.Slot++
	}
	p.slots = max(p.slots, len(taken)+1)
	p.names = append(p.names, v)
	return v
}

func (p *elderProto) end(first int) {
	for _, v := range p.names[first:] {
		if !v.gone {
			v.gone, v.To = true, len(p.steps)
		}
	}
}

func (p *elderProto) step(n impl.Node, op int) *elderStep {
	p.steps = append(p.steps, elderStep{Instr: impl.Instr{Op: op, Line: n.Line}})
	return &p.steps[len(p.steps)-1]
}

func (c *elderCoder) block(p *elderProto, n impl.Node, around map[string]*elderName, exit *elderPlace) {
	names, first := maps.Clone(around), len(p.names)
	for _, kid := range n.Kids {
		c.statement(p, kid, names, exit)
	}
	p.end(first)
}

func (c *elderCoder) statement(p *elderProto, n impl.Node, names map[string]*elderName, exit *elderPlace) {
	value := func(at int) {
		if at < len(n.Kids) {
			c.expression(p, n.Kids[at], names)
		} else {
			p.step(n, impl.OpPush)
		}
	}
	here := func() *elderPlace { return &elderPlace{len(p.steps)} }
	switch n.Kind {
	case impl.NkLocal:
		value(0)
		made := p.step(n, impl.OpNew)
		names[n.Text] = p.name(n.Text)
		made.names = names[n.Text]
	case impl.NkRec:
		p.step(n, impl.OpPush)
		made := p.step(n, impl.OpNew)
		names[n.Text] = p.name(n.Text)
		made.names = names[n.Text]
		value(0)
		p.step(n, impl.OpSetLocal).names = names[n.Text]
	case impl.NkIf:
		value(0)
		other, behind := here(), here()
		p.step(n, impl.OpFalse).goes = other
		c.block(p, n.Kids[1], names, exit)
		if len(n.Kids) == 3 {
			p.step(n, impl.OpJump).goes = behind
			*other = *here()
			c.block(p, n.Kids[2], names, exit)
		} else {
			*other = *here()
		}
		*behind = *here()
	case impl.NkWhile:
		begin, behind := here(), here()
		value(0)
		p.step(n, impl.OpFalse).goes = behind
		c.block(p, n.Kids[1], names, behind)
		p.step(n, impl.OpJump).goes = begin
		*behind = *here()
	case impl.NkReturn:
		value(0)
		p.step(n, impl.OpReturn)
	case impl.NkBreak:
		if exit == nil {
			p.step(n, impl.OpRaise).S = "break"
		} else {
			p.step(n, impl.OpJump).goes = exit
		}
	case impl.NkSet:
		c.set(p, n, names)
	case impl.NkDo:
		value(0)
		p.step(n, impl.OpPop)
	}
}

func (c *elderCoder) set(p *elderProto, n impl.Node, names map[string]*elderName) {
	to := n.Kids[0]
	if to.Kind == impl.NkIndex {
		c.expression(p, to.Kids[0], names)
		c.expression(p, to.Kids[1], names)
	}
	c.expression(p, n.Kids[1], names)
	switch {
	case to.Kind == impl.NkIndex:
		p.step(n, impl.OpPut)
	case names[to.Text] == nil:
		p.step(n, impl.OpRaise).S = "name"
	default:
		p.step(n, impl.OpSetLocal).names = names[to.Text]
	}
}

var elderConstants = map[int]impl.Value{impl.NkNil: {}, impl.NkTrue: {Kind: impl.KBool, N: 1}, impl.NkFalse: {Kind: impl.KBool}}

var elderHosts = map[string]int{"print": 0, "error": 1, "try": 2}

func (c *elderCoder) expression(p *elderProto, n impl.Node, names map[string]*elderName) {
	kids := func(list ...impl.Node) {
		for _, kid := range list {
			c.expression(p, kid, names)
		}
	}
	switch n.Kind {
	case impl.NkNil, impl.NkTrue, impl.NkFalse:
		p.step(n, impl.OpPush).V = elderConstants[n.Kind]
	case impl.NkInt:
		p.step(n, impl.OpPush).V = intOf(n.N)
	case impl.NkText:
		p.step(n, impl.OpPush).V = textOf(n.Text)
	case impl.NkName:
		host, ok := elderHosts[n.Text]
		if names[n.Text] != nil {
			p.step(n, impl.OpLocal).names = names[n.Text]
		} else if ok {
			p.step(n, impl.OpPush).V = impl.Value{Kind: impl.KHost, N: host}
		} else {
			p.step(n, impl.OpRaise).S = "name"
		}
	case impl.NkTable:
		p.step(n, impl.OpTable)
	case impl.NkFunc:
		makes := c.function(p, n.Names, n.Kids[0], names)
		p.step(n, impl.OpFunc).makes = makes
	case impl.NkIndex:
		kids(n.Kids...)
		p.step(n, impl.OpIndex)
	case impl.NkCall:
		kids(n.Kids...)
		p.step(n, impl.OpCall).A = len(n.Kids) - 1
	case impl.NkBin:
		kids(n.Kids[0])
		if n.Text == "and" || n.Text == "or" {
			behind := &elderPlace{}
			p.step(n, map[string]int{"and": impl.OpAnd, "or": impl.OpOr}[n.Text]).goes = behind
			kids(n.Kids[1])
			behind.at = len(p.steps)
			return
		}
		kids(n.Kids[1])
		p.step(n, impl.OpBin).S = n.Text
	case impl.NkUn:
		kids(n.Kids...)
		p.step(n, impl.OpUn).S = n.Text
	}
}

// needs are the names of functions around, in the order in which the steps of this one, or of those that it makes, come to them.
func (p *elderProto) needs() []*elderName {
	var list []*elderName
	for _, s := range p.steps {
		var wanted []*elderName
		if s.names != nil {
			wanted = append(wanted, s.names)
		}
		if s.makes != nil {
			wanted = append(wanted, s.makes.needs()...)
		}
		for _, v := range wanted {
			if v.of != p && !slices.Contains(list, v) {
				list = append(list, v)
			}
		}
	}
	return list
}

func (p *elderProto) numbered() impl.Proto {
	out := impl.Proto{Params: p.params, Slots: p.slots}
	needs := p.needs()
	for _, v := range needs {
		up := impl.Up{Local: true, At: v.Slot}
		if v.of != p.parent {
			up = impl.Up{At: slices.Index(p.parent.needs(), v)}
		}
		out.Ups = append(out.Ups, up)
	}
	for _, s := range p.steps {
		switch {
		case s.names != nil && s.names.of == p:
			s.A = s.names.Slot
		case s.names != nil:
			s.Op, s.A = map[int]int{impl.OpLocal: impl.OpUp, impl.OpSetLocal: impl.OpSetUp}[s.Op], slices.Index(needs, s.names)
		case s.makes != nil:
			s.A = s.makes.number
		case s.goes != nil:
			s.A = s.goes.at
		}
		out.Code = append(out.Code, s.Instr)
	}
	for _, v := range p.names {
		out.Names = append(out.Names, v.Name)
	}
	return out
}

// elderMachine does code by a call of its own for each call of a function.
type elderMachine struct {
	elderRun
	list []impl.Proto
	made []elderClosure
	left int
}

type elderClosure struct {
	proto int
	ups   []int
}

// elderSteps tells how code ends that is done for at most so many steps.
func elderSteps(list []impl.Proto, most int) impl.Outcome {
	m := &elderMachine{list: list, left: most}
	o := impl.Outcome{Kind: impl.EndDone}
	switch end := m.leaves(func() { o.Value = m.do(elderClosure{}, nil) }).(type) {
	case elderError:
		o.Kind, o.Value = impl.EndError, end.value
	case elderFuel:
		o.Kind = impl.EndFuel
	}
	o.Out = m.out
	return o
}

type elderFrame struct {
	slots []int
	ups   []int
	stack []impl.Value
	pc    int
}

func (f *elderFrame) take() impl.Value {
	last := len(f.stack) - 1
	v := f.stack[last]
	f.stack = f.stack[:last]
	return v
}

func (m *elderMachine) do(c elderClosure, list []impl.Value) impl.Value {
	p := m.list[c.proto]
	f := elderFrame{ups: c.ups, slots: slices.Repeat([]int{-1}, p.Slots)}
	for i := range p.Params {
		v := impl.Value{}
		if i < len(list) {
			v = list[i]
		}
		f.slots[i] = m.cell(v)
	}
	for {
		if m.left == 0 {
			panic(elderFuel{})
		}
		m.left--
		in := p.Code[f.pc]
		f.pc++
		if in.Op == impl.OpReturn {
			return f.take()
		}
		m.step(&f, in)
	}
}

func (m *elderMachine) orFail(v impl.Value, refusal string) impl.Value {
	if refusal != "" {
		m.fail(refusal)
	}
	return v
}

func (m *elderMachine) step(f *elderFrame, in impl.Instr) {
	push := func(v impl.Value) { f.stack = append(f.stack, v) }
	switch in.Op {
	case impl.OpPush:
		push(in.V)
	case impl.OpLocal:
		push(m.heap.Cells[f.slots[in.A]])
	case impl.OpUp:
		push(m.heap.Cells[f.ups[in.A]])
	case impl.OpSetLocal:
		m.heap.Cells[f.slots[in.A]] = f.take()
	case impl.OpSetUp:
		m.heap.Cells[f.ups[in.A]] = f.take()
	case impl.OpNew:
		f.slots[in.A] = m.cell(f.take())
	case impl.OpIndex:
		k, t := f.take(), f.take()
		push(m.orFail(impl.GetAt(m.heap, t, k)))
	case impl.OpPut:
		v, k, t := f.take(), f.take(), f.take()
		h, refusal := impl.SetAt(m.heap, t, k, v)
		m.orFail(v, refusal)
		m.heap = h
	case impl.OpTable:
		h, t := impl.NewTable(m.heap)
		if t.Kind == impl.KNil {
			m.fail("tables")
		}
		m.heap = h
		push(t)
	case impl.OpFunc:
		c := elderClosure{proto: in.A}
		for _, up := range m.list[in.A].Ups {
			c.ups = append(c.ups, map[bool][]int{true: f.slots, false: f.ups}[up.Local][up.At])
		}
		m.made = append(m.made, c)
		push(impl.Value{Kind: impl.KFunc, N: len(m.made) - 1})
	case impl.OpCall:
		first := len(f.stack) - in.A
		list := slices.Clone(f.stack[first:])
		f.stack = f.stack[:first]
		push(m.doCall(f.take(), list))
	case impl.OpBin:
		b, a := f.take(), f.take()
		push(m.orFail(elderOperate(in.S, a, b)))
	case impl.OpUn:
		push(m.orFail(impl.Unary(in.S, m.heap, f.take())))
	default:
		m.stepAside(f, in)
	}
}

func (m *elderMachine) stepAside(f *elderFrame, in impl.Instr) {
	switch in.Op {
	case impl.OpJump:
		f.pc = in.A
	case impl.OpFalse:
		if !impl.Truth(f.take()) {
			f.pc = in.A
		}
	case impl.OpAnd, impl.OpOr:
		if v := f.take(); impl.Truth(v) == (in.Op == impl.OpOr) {
			f.stack = append(f.stack, v)
			f.pc = in.A
		}
	case impl.OpPop:
		f.take()
	case impl.OpRaise:
		m.fail(in.S)
	}
}

func elderOperate(op string, a impl.Value, b impl.Value) (impl.Value, string) {
	switch {
	case op == "..":
		return impl.Concat(a, b)
	case slices.Contains(compareSigns, op):
		return impl.Compare(op, a, b)
	}
	return impl.Arith(op, a, b)
}

func (m *elderMachine) doCall(called impl.Value, list []impl.Value) impl.Value {
	first := append(slices.Clone(list), impl.Value{})[0]
	switch {
	case called.Kind == impl.KFunc:
		if m.calls == impl.MaxCalls {
			m.fail("deep")
		}
		m.calls++
		v := m.do(m.made[called.N], list)
		m.calls--
		return v
	case called == impl.Value{Kind: impl.KHost, N: 2}:
		calls := m.calls
		left := m.leaves(func() { m.doCall(first, nil) })
		m.calls = calls
		if end, ok := left.(elderError); ok {
			if end.value.Kind == impl.KNil {
				return textOf("nil")
			}
			return end.value
		}
		if left != nil {
			panic(left)
		}
		return impl.Value{}
	}
	return m.call(called, list)
}

var opNames = strings.Fields("push local up setlocal setup new index put table func call bin un jump jumpfalse and or pop return raise")

// withPlace are the Ops that have an A.
var withPlace = []int{impl.OpLocal, impl.OpUp, impl.OpSetLocal, impl.OpSetUp, impl.OpNew, impl.OpFunc, impl.OpCall, impl.OpJump, impl.OpFalse, impl.OpAnd, impl.OpOr}

// instrWords tells an instruction without its line; all that its Op should not have is told, too.
func instrWords(in impl.Instr) string {
	op := "op" + strconv.Itoa(in.Op)
	if in.Op >= 0 && in.Op < len(opNames) {
		op = opNames[in.Op]
	}
	words := []string{op}
	if in.A != 0 || slices.Contains(withPlace, in.Op) {
		words = append(words, strconv.Itoa(in.A))
	}
	if in.V != (impl.Value{}) || in.Op == impl.OpPush {
		words = append(words, valueWord(in.V))
	}
	if in.S != "" {
		words = append(words, in.S)
	}
	return strings.Join(words, " ")
}

// protoWords tells a proto: Params/Slots, its ups, its instructions, and behind a bar its names with slot, From and To.
func protoWords(p impl.Proto) string {
	s := strconv.Itoa(p.Params) + "/" + strconv.Itoa(p.Slots)
	for _, up := range p.Ups {
		s += map[bool]string{true: " l", false: " u"}[up.Local] + strconv.Itoa(up.At)
	}
	var code, names []string
	for _, in := range p.Code {
		code = append(code, instrWords(in))
	}
	for _, v := range p.Names {
		names = append(names, strings.Join([]string{v.Text, strconv.Itoa(v.Slot), strconv.Itoa(v.From), strconv.Itoa(v.To)}, " "))
	}
	s += ": " + strings.Join(code, "; ")
	if len(names) > 0 {
		s += " | " + strings.Join(names, ", ")
	}
	return s
}

func codeWords(list []impl.Proto) string {
	var out []string
	for _, p := range list {
		out = append(out, protoWords(p))
	}
	return strings.Join(out, "\n")
}

// codeLines tells the lines of each proto's instructions.
func codeLines(list []impl.Proto) string {
	var out []string
	for _, p := range list {
		var lines []string
		for _, in := range p.Code {
			lines = append(lines, strconv.Itoa(in.Line))
		}
		out = append(out, strings.Join(lines, " "))
	}
	return strings.Join(out, "\n")
}

// wantRight asks for promise 5, but for the limit of slots: code as the second opinion tells it, whose numbers all lie within what is there.
func wantRight(t *testing.T, n impl.Node) []impl.Proto {
	t.Helper()
	told := outline(n, true)
	list, ok := impl.Compile(n)
	if !ok || len(list) == 0 {
		t.Fatalf("no code: %.900s", impl.Show(n))
	}
	want := elderCompile(n)
	if codeWords(list) != codeWords(want) {
		t.Fatalf("%.900s\n%.2000s\nnot\n%.2000s", impl.Show(n), codeWords(list), codeWords(want))
	}
	if codeLines(list) != codeLines(want) {
		t.Fatalf("%.900s\n%.2000s\nlines\n%.2000s\nnot\n%.2000s", impl.Show(n), codeWords(list), codeLines(list), codeLines(want))
	}
	most := 0
	for _, p := range list {
		most = max(most, p.Slots)
		for _, v := range p.Names {
			if v.Slot < 0 || v.Slot >= p.Slots || v.From < 0 || v.From > v.To || v.To > len(p.Code) {
				t.Fatalf("%.900s\nname %v of %.900s", impl.Show(n), v, protoWords(p))
			}
		}
	}
	if impl.CodeOk(list) != (most <= 200) {
		t.Fatalf("%.900s\nCodeOk with %d slots: %v", impl.Show(n), most, most > 200)
	}
	if outline(n, true) != told {
		t.Fatal("written into the tree", told)
	}
	return list
}

// wantShownAgain asks that a program that is shown and read again has the same code, but for the lines.
func wantShownAgain(t *testing.T, n impl.Node) {
	t.Helper()
	again, line := impl.Read(impl.Show(n))
	first, ok := impl.Compile(n)
	second, same := impl.Compile(again)
	if line != 0 || !ok || !same || codeWords(first) != codeWords(second) {
		t.Fatalf("%.900s\n%.2000s\nbut shown and read again\n%.2000s", impl.Show(n), codeWords(first), codeWords(second))
	}
}

// wantSteps asks that code ends as the meaning of its tree does, where that ends within so much fuel.
func wantSteps(t *testing.T, n impl.Node, fuel int) impl.Outcome {
	t.Helper()
	list, _ := impl.Compile(n)
	want := impl.Direct(n, fuel)
	if want.Kind == impl.EndFuel {
		return want
	}
	if got := elderSteps(list, 10*fuel); ended(got) != ended(want) {
		t.Fatalf("%.900s\nby its code: %.900s, not\n%.900s", impl.Show(n), ended(got), ended(want))
	}
	return want
}
