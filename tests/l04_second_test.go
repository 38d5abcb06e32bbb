package tests

import (
	"maps"
	"slices"
	"strconv"
	"strings"
	"testing"

	"loop.example/g00258/impl"
)

// elderRun goes down a tree anew each time that it is done, with a table of names at each place, and leaves by panics: a second opinion.
type elderRun struct {
	heap    impl.Heap
	funs    []elderFunction
	out     []string
	calls   int
	fuel    int
	printed []int // how many lines there were when each bit of fuel was taken
}

type elderFunction struct {
	node  impl.Node
	names map[string]int
}

type (
	elderError  struct{ value impl.Value }
	elderReturn struct{ value impl.Value }
	elderBreak  struct{}
	elderFuel   struct{}
)

// elderDirect tells for each bit of fuel, too, how many lines there were when it was taken.
func elderDirect(n impl.Node, fuel int) (impl.Outcome, []int) {
	e := &elderRun{fuel: fuel}
	o := impl.Outcome{Kind: impl.EndDone}
	switch end := e.leaves(func() { e.block(n, map[string]int{}, false) }).(type) {
	case elderReturn:
		o.Value = end.value
	case elderError:
		o.Kind, o.Value = impl.EndError, end.value
	case elderFuel:
		o.Kind = impl.EndFuel
	}
	o.Out = e.out
	return o, e.printed
}

// leaves does something and tells what it was left by; nil where it was not.
func (e *elderRun) leaves(do func()) (left any) {
	defer func() {
		switch left = recover(); left.(type) {
		case nil, elderError, elderReturn, elderBreak, elderFuel:
		default:
			panic(left)
		}
	}()
	do()
	return nil
}

func (e *elderRun) fail(word string) {
	panic(elderError{textOf(word)})
}

func (e *elderRun) take() {
	if len(e.printed) >= e.fuel {
		panic(elderFuel{})
	}
	e.printed = append(e.printed, len(e.out))
}

func (e *elderRun) cell(v impl.Value) int {
	if len(e.heap.Cells) == impl.MaxCells {
		e.fail("cells")
	}
	e.heap.Cells = append(e.heap.Cells, v)
	return len(e.heap.Cells) - 1
}

func (e *elderRun) block(n impl.Node, around map[string]int, inLoop bool) {
	e.take()
	names := maps.Clone(around)
	for _, kid := range n.Kids {
		e.statement(kid, names, inLoop)
	}
}

func (e *elderRun) statement(n impl.Node, names map[string]int, inLoop bool) {
	e.take()
	value := func(at int) impl.Value {
		if at < len(n.Kids) {
			return e.expression(n.Kids[at], names)
		}
		return impl.Value{}
	}
	switch n.Kind {
	case impl.NkLocal:
		names[n.Text] = e.cell(value(0))
	case impl.NkRec:
		names[n.Text] = e.cell(impl.Value{})
		at := names[n.Text]
		e.heap.Cells[at] = value(0)
	case impl.NkIf:
		if impl.Truth(value(0)) {
			e.block(n.Kids[1], names, inLoop)
		} else if len(n.Kids) == 3 {
			e.block(n.Kids[2], names, inLoop)
		}
	case impl.NkWhile:
		for impl.Truth(value(0)) {
			left := e.leaves(func() { e.block(n.Kids[1], names, true) })
			if left == (elderBreak{}) {
				return
			}
			if left != nil {
				panic(left)
			}
		}
	case impl.NkReturn:
		panic(elderReturn{value(0)})
	case impl.NkBreak:
		if !inLoop {
			e.fail("break")
		}
		panic(elderBreak{})
	case impl.NkSet:
		e.set(n.Kids[0], n.Kids[1], names)
	case impl.NkDo:
		value(0)
	}
}

func (e *elderRun) set(to impl.Node, from impl.Node, names map[string]int) {
	if to.Kind == impl.NkName {
		v := e.expression(from, names)
		at, ok := names[to.Text]
		if !ok {
			e.fail("name")
		}
		e.heap.Cells[at] = v
		return
	}
	t := e.expression(to.Kids[0], names)
	k := e.expression(to.Kids[1], names)
	v := e.expression(from, names)
	heap, refusal := impl.SetAt(e.heap, t, k, v)
	if refusal != "" {
		e.fail(refusal)
	}
	e.heap = heap
}

func (e *elderRun) expression(n impl.Node, names map[string]int) impl.Value {
	e.take()
	switch n.Kind {
	case impl.NkTrue, impl.NkFalse:
		return boolOf(n.Kind == impl.NkTrue)
	case impl.NkInt:
		return intOf(n.N)
	case impl.NkText:
		return textOf(n.Text)
	case impl.NkName:
		return e.name(n.Text, names)
	case impl.NkTable:
		heap, v := impl.NewTable(e.heap)
		if v.Kind == impl.KNil {
			e.fail("tables")
		}
		e.heap = heap
		return v
	case impl.NkFunc:
		e.funs = append(e.funs, elderFunction{n, maps.Clone(names)})
		return impl.Value{Kind: impl.KFunc, N: len(e.funs) - 1}
	case impl.NkBin, impl.NkUn, impl.NkIndex:
		return e.operation(n, names)
	case impl.NkCall:
		var list []impl.Value
		for _, kid := range n.Kids {
			list = append(list, e.expression(kid, names))
		}
		return e.call(list[0], list[1:])
	}
	return impl.Value{}
}

func (e *elderRun) name(name string, names map[string]int) impl.Value {
	if at, ok := names[name]; ok {
		return e.heap.Cells[at]
	}
	host := slices.Index([]string{"print", "error", "try"}, name)
	if host < 0 {
		e.fail("name")
	}
	return impl.Value{Kind: impl.KHost, N: host}
}

func (e *elderRun) operation(n impl.Node, names map[string]int) impl.Value {
	a := e.expression(n.Kids[0], names)
	if n.Kind == impl.NkBin && n.Text == "and" && !impl.Truth(a) || n.Kind == impl.NkBin && n.Text == "or" && impl.Truth(a) {
		return a
	}
	var b, v impl.Value
	refusal := ""
	if n.Kind != impl.NkUn {
		b = e.expression(n.Kids[1], names)
	}
	switch {
	case n.Kind == impl.NkUn:
		v, refusal = impl.Unary(n.Text, e.heap, a)
	case n.Kind == impl.NkIndex:
		v, refusal = impl.GetAt(e.heap, a, b)
	case n.Text == "and" || n.Text == "or":
		return b
	case n.Text == "..":
		v, refusal = impl.Concat(a, b)
	case slices.Contains(compareSigns, n.Text):
		v, refusal = impl.Compare(n.Text, a, b)
	default:
		v, refusal = impl.Arith(n.Text, a, b)
	}
	if refusal != "" {
		e.fail(refusal)
	}
	return v
}

func (e *elderRun) call(f impl.Value, list []impl.Value) impl.Value {
	first := append(slices.Clone(list), impl.Value{})[0]
	switch f {
	case impl.Value{Kind: impl.KHost}:
		if len(e.out) == impl.MaxLines {
			e.fail("full")
		}
		e.out = append(e.out, impl.ShowValue(first))
		return impl.Value{}
	case impl.Value{Kind: impl.KHost, N: 1}:
		panic(elderError{first})
	case impl.Value{Kind: impl.KHost, N: 2}:
		calls := e.calls
		left := e.leaves(func() { e.call(first, nil) })
		e.calls = calls
		switch end := left.(type) {
		case nil:
			return impl.Value{}
		case elderError:
			if end.value.Kind == impl.KNil {
				return textOf("nil")
			}
			return end.value
		}
		panic(left)
	}
	if f.Kind != impl.KFunc {
		e.fail("call")
	}
	return e.callFunction(e.funs[f.N], list)
}

func (e *elderRun) callFunction(f elderFunction, list []impl.Value) impl.Value {
	if e.calls == impl.MaxCalls {
		e.fail("deep")
	}
	e.calls++
	names := maps.Clone(f.names)
	for i, name := range f.node.Names {
		v := impl.Value{}
		if i < len(list) {
			v = list[i]
		}
		names[name] = e.cell(v)
	}
	left := e.leaves(func() { e.block(f.node.Kids[0], names, false) })
	e.calls--
	if end, ok := left.(elderReturn); ok {
		return end.value
	}
	if left != nil {
		panic(left)
	}
	return impl.Value{}
}

var endNames = strings.Fields("done error fuel")

// valueWord tells a value so that no two kinds look alike.
func valueWord(v impl.Value) string {
	switch v {
	case impl.Value{}:
		return "nil"
	case boolOf(true), boolOf(false), intOf(v.N):
		return impl.ShowValue(v)
	case textOf(v.S):
		return impl.Quote(v.S)
	case tableOf(v.N):
		return "table:" + strconv.Itoa(v.N)
	case impl.Value{Kind: impl.KFunc, N: v.N}:
		return "function:" + strconv.Itoa(v.N)
	case impl.Value{Kind: impl.KHost, N: v.N}:
		return "host:" + strconv.Itoa(v.N)
	}
	return told("odd", v)
}

// ended tells an outcome: how it ended, with which value, and behind a bar each what was printed.
func ended(o impl.Outcome) string {
	kind := strconv.Itoa(o.Kind)
	if o.Kind >= 0 && o.Kind < len(endNames) {
		kind = endNames[o.Kind]
	}
	return strings.Join(append([]string{kind + " " + valueWord(o.Value)}, o.Out...), "|")
}

const muchFuel = 200000

// wantFuels asks for promise 4: with as much fuel as a program takes, or more, it ends so; with less for want of it, and has printed what comes ahead of what it lacks.
func wantFuels(t *testing.T, n impl.Node, whole impl.Outcome, printed []int) {
	t.Helper()
	taken := len(printed)
	for _, fuel := range []int{taken, taken + 1, taken + 2, taken + 1000, 1 << 40, 1<<63 - 1} {
		if whole.Kind == impl.EndFuel && fuel > taken {
			break
		}
		if got := ended(impl.Direct(n, fuel)); got != ended(whole) {
			t.Fatalf("%.900s\nwith %d of %d fuel: %.300s, not %.300s", impl.Show(n), fuel, taken, got, ended(whole))
		}
	}
	for _, fuel := range []int{-1 << 63, -1000, -1} {
		wantLess(t, n, whole, printed, fuel)
	}
	step := 1 + taken/300
	for fuel := 0; fuel < taken; fuel += step {
		wantLess(t, n, whole, printed, fuel)
	}
	if taken > 0 {
		wantLess(t, n, whole, printed, taken-1)
	}
}

func wantLess(t *testing.T, n impl.Node, whole impl.Outcome, printed []int, fuel int) {
	t.Helper()
	want := impl.Outcome{Kind: impl.EndFuel, Out: whole.Out[:printed[max(fuel, 0)]]}
	if got := ended(impl.Direct(n, fuel)); got != ended(want) {
		t.Fatalf("%.900s\nwith %d of %d fuel: %.300s, not %.300s", impl.Show(n), fuel, len(printed), got, ended(want))
	}
}

// wantBoth asks for what the second opinion says, at all fuels.
func wantBoth(t *testing.T, n impl.Node, fuel int) impl.Outcome {
	t.Helper()
	told := outline(n, true)
	whole, printed := elderDirect(n, fuel)
	wantFuels(t, n, whole, printed)
	if outline(n, true) != told {
		t.Fatal("written into the tree", told)
	}
	return whole
}

// wantRun asks how a source ends (as ended tells it), at all fuels and by its machine, and how much of that it takes.
func wantRun(t *testing.T, src string, want string) int {
	t.Helper()
	n, line := impl.Read(src)
	if line != 0 {
		t.Fatalf("Read of %.200q: %d", src, line)
	}
	if got := ended(impl.Direct(n, muchFuel)); got != want {
		t.Fatalf("%.900s\n%.900s, not\n%.900s", src, got, want)
	}
	whole, printed := elderDirect(n, muchFuel)
	if got := ended(whole); got != want {
		t.Fatalf("second: %.900s\n%.900s, not\n%.900s", src, got, want)
	}
	wantFuels(t, n, whole, printed)
	wantMachine(t, n, want)
	return len(printed)
}

func wantRuns(t *testing.T, rows ...string) {
	t.Helper()
	for i := 0; i < len(rows); i += 2 {
		wantRun(t, rows[i], rows[i+1])
	}
}
