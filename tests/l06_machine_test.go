package tests

import (
	"math"
	"slices"
	"strconv"
	"strings"
	"testing"

	"loop.example/g00258/impl"
)

func funcOf(n int) impl.Value { return impl.Value{Kind: impl.KFunc, N: n} }

func hostOf(n int) impl.Value { return impl.Value{Kind: impl.KHost, N: n} }

var (
	hostPrint = hostOf(0)
	hostError = hostOf(1)
	hostTry   = hostOf(2)
)

func values(list ...impl.Value) []impl.Value { return list }

func topOf(m *impl.Vm) *impl.Frame { return &m.Frames[len(m.Frames)-1] }

// bench is a machine of three frames, the last of which is at an instruction with these values in its Stack, and the code for it.
func bench(in impl.Instr, stack ...impl.Value) ([]impl.Proto, impl.Vm) {
	list := []impl.Proto{
		{Slots: 1, Code: []impl.Instr{{Line: 1}, {Op: impl.OpCall, Line: 2}, {Op: impl.OpPop, Line: 3}}},
		{Params: 1, Slots: 3, Ups: []impl.Up{{Local: true}, {}}, Code: []impl.Instr{{Line: 4}, {Line: 5}, in, {Line: 7}, {Line: 8}}},
		{Params: 2, Slots: 3, Ups: []impl.Up{{Local: true, At: 1}, {At: 0}, {Local: true}}, Code: []impl.Instr{{Line: 9}, {Line: 10}}},
		{Code: []impl.Instr{{Line: 11}}},
		{Params: 8, Slots: 200},
		{},
	}
	m := impl.Vm{
		Heap: someHeap(),
		Funs: []impl.Closure{{Proto: 2, Ups: []int{3, 1, 0}}, {Proto: 1, Ups: []int{0, 2}}, {Proto: 3}, {Proto: 4}, {Proto: 0}},
		Frames: []impl.Frame{
			{Pc: 2, Slots: []int{1}, Stack: values(intOf(50))},
			{Proto: 2, Pc: 1, Slots: []int{3, 3, -1}, Ups: []int{1, 1, 2}, Stack: values(textOf("a"), textOf("b"))},
			{Proto: 1, Pc: 2, Slots: []int{2, 0, -1}, Ups: []int{3, 1}, Stack: stack},
		},
		Out:   []string{"before", ""},
		Steps: 10,
	}
	return list, m
}

// wantStepFrom asks what a step makes: all stays, but for Steps, Pc, and what the change does.
func wantStepFrom(t *testing.T, list []impl.Proto, m impl.Vm, change func(m *impl.Vm)) {
	t.Helper()
	want := copyOf(m)
	want.Steps++
	topOf(&want).Pc++
	change(&want)
	wantSameVm(t, elderTurn(list, m), want)
	wantSameVm(t, stepOf(t, list, m), want)
}

// wantStep asks what an instruction makes of the Stack, whatever is below what it takes, and of all else.
func wantStep(t *testing.T, in impl.Instr, stack []impl.Value, want []impl.Value, change func(m *impl.Vm)) {
	t.Helper()
	for _, below := range [][]impl.Value{nil, {textOf("below")}, {{}, boolOf(false), intOf(1)}} {
		list, m := bench(in, slices.Concat(below, stack)...)
		wantStepFrom(t, list, m, func(m *impl.Vm) {
			topOf(m).Stack = slices.Concat(below, want)
			if change != nil {
				change(m)
			}
		})
	}
}

// wantBadFrom asks for a machine that is bad behind a step, and keeps all but its frames.
func wantBadFrom(t *testing.T, list []impl.Proto, m impl.Vm) {
	t.Helper()
	want := copyOf(m)
	want.Steps, want.Kind, want.Frames = m.Steps+1, impl.VmBad, nil
	wantSameVm(t, elderTurn(list, m), want)
	wantSameVm(t, stepOf(t, list, m), want)
	for _, n := range []int{1, 2, 10, impl.MaxRun + 1, math.MaxInt} {
		wantSameVm(t, impl.VmRun(list, m, n), want)
	}
	for _, n := range []int{0, -1, math.MinInt} {
		wantSameVm(t, impl.VmRun(list, m, n), m)
	}
	wantSameVm(t, stepOf(t, list, want), want)
}

func wantBad(t *testing.T, in impl.Instr, stack ...impl.Value) {
	t.Helper()
	list, m := bench(in, stack...)
	wantBadFrom(t, list, m)
}

// wantFailFrom asks what an error makes of a machine, with Guard in each of its frames or not; change is what else the step does.
func wantFailFrom(t *testing.T, list []impl.Proto, m impl.Vm, v impl.Value, change func(m *impl.Vm)) {
	t.Helper()
	last := len(m.Frames) - 1
	caught := v
	if v.Kind == impl.KNil {
		caught = textOf("nil")
	}
	for guards := range 1 << min(4, len(m.Frames)) {
		given := copyOf(m)
		guard := -1
		for i := range given.Frames {
			// Bit 0 is for the first frame, the others for the last ones.
			bit := max(0, i-last+min(3, last))
			given.Frames[i].Guard = guards>>bit&1 == 1 && (bit > 0 || i == 0)
			if given.Frames[i].Guard {
				guard = i
			}
		}
		want := copyOf(given)
		want.Steps++
		if change != nil {
			change(&want)
		}
		switch {
		case guard < 0:
			want.Kind, want.Value, want.Frames = impl.VmError, v, nil
		case guard == 0:
			want.Kind, want.Frames = impl.VmBad, nil
		default:
			want.Frames = want.Frames[:guard]
			topOf(&want).Stack = append(topOf(&want).Stack, caught)
		}
		wantSameVm(t, elderTurn(list, given), want)
		wantSameVm(t, stepOf(t, list, given), want)
	}
}

func wantFail(t *testing.T, in impl.Instr, stack []impl.Value, v impl.Value) {
	t.Helper()
	for _, below := range [][]impl.Value{nil, {textOf("below"), {}}} {
		list, m := bench(in, slices.Concat(below, stack)...)
		wantFailFrom(t, list, m, v, nil)
	}
}

func TestConstantsOfMachine(t *testing.T) {
	got := []int{impl.VmRuns, impl.VmDone, impl.VmError, impl.VmBad, impl.MaxRun}
	for i, want := range []int{0, 1, 2, 3, 3000} {
		if got[i] != want {
			t.Error("constant", i, got[i])
		}
	}
}

func TestVmStart(t *testing.T) {
	for _, slots := range []int{0, 1, 2, 7, 199, 200} {
		list := []impl.Proto{{Slots: slots}, {Params: 1, Slots: 5}}
		m := asked(t, list, impl.Vm{}, func(list []impl.Proto, m impl.Vm) impl.Vm { return impl.VmStart(list) })
		wantSameVm(t, m, impl.Vm{Frames: []impl.Frame{{Slots: slices.Repeat([]int{-1}, slots)}}})
	}
	n, _ := impl.Read(everyForm)
	list, _ := impl.Compile(n)
	m := asked(t, list, impl.Vm{}, func(list []impl.Proto, m impl.Vm) impl.Vm { return impl.VmStart(list) })
	wantSameVm(t, m, impl.Vm{Frames: []impl.Frame{{Slots: slices.Repeat([]int{-1}, list[0].Slots)}}})
	for _, list := range wrongLists() {
		wantSameVm(t, impl.VmStart(list), impl.Vm{Kind: impl.VmBad})
	}
}

// wrongLists are not CodeOk.
func wrongLists() [][]impl.Proto {
	return [][]impl.Proto{
		nil, {}, {{Params: 1, Slots: 1}}, {{Ups: []impl.Up{{}}}}, {{Slots: 201}}, {{Slots: -1}}, {{}, {Params: 3, Slots: 2}}, {{}, {Slots: 201}}, {{}, {Slots: math.MaxInt}},
		{{Code: []impl.Instr{{Op: impl.OpPush}, {Op: 20}}}}, {{Code: []impl.Instr{{}, {Op: -1}}}}, {{Code: []impl.Instr{{}}}, {Code: []impl.Instr{{Op: impl.OpJump, A: 2}}}},
		{{Code: []impl.Instr{{}, {Op: impl.OpFunc}}}}, {{Code: []impl.Instr{{}, {Op: impl.OpFunc, A: 1}}}}, {{Slots: 1, Code: []impl.Instr{{}, {Op: impl.OpNew, A: 1}}}}, {{Code: []impl.Instr{{}, {Op: impl.OpCall, A: 9}}}},
	}
}

func TestStepOfPush(t *testing.T) {
	for _, v := range anyValues() {
		wantStep(t, impl.Instr{Op: impl.OpPush, V: v, A: -3, S: "unused"}, nil, values(v), nil)
	}
}

func TestStepOfCells(t *testing.T) {
	wantStep(t, impl.Instr{Op: impl.OpLocal, A: 0}, nil, values(tableOf(2)), nil)
	wantStep(t, impl.Instr{Op: impl.OpLocal, A: 1}, nil, values(textOf("cell")), nil)
	wantStep(t, impl.Instr{Op: impl.OpUp, A: 0}, nil, values(intOf(-1)), nil)
	wantStep(t, impl.Instr{Op: impl.OpUp, A: 1}, nil, values(impl.Value{}), nil)
	for _, v := range anyValues() {
		in := func(cell int) func(m *impl.Vm) { return func(m *impl.Vm) { m.Heap.Cells[cell] = v } }
		wantStep(t, impl.Instr{Op: impl.OpSetLocal, A: 0}, values(v), nil, in(2))
		wantStep(t, impl.Instr{Op: impl.OpSetLocal, A: 1}, values(v), nil, in(0))
		wantStep(t, impl.Instr{Op: impl.OpSetUp, A: 0}, values(v), nil, in(3))
		wantStep(t, impl.Instr{Op: impl.OpSetUp, A: 1}, values(v), nil, in(1))
		for slot := range 3 {
			wantStep(t, impl.Instr{Op: impl.OpNew, A: slot}, values(v), nil, func(m *impl.Vm) {
				m.Heap.Cells = append(m.Heap.Cells, v)
				topOf(m).Slots[slot] = 4
			})
		}
	}
}

func TestStepOfTables(t *testing.T) {
	index, put := impl.Instr{Op: impl.OpIndex}, impl.Instr{Op: impl.OpPut}
	wantStep(t, index, values(tableOf(1), intOf(2)), values(textOf("two")), nil)
	wantStep(t, index, values(tableOf(1), textOf("2")), values(boolOf(false)), nil)
	wantStep(t, index, values(tableOf(0), intOf(1)), values(tableOf(1)), nil)
	wantStep(t, index, values(tableOf(0), impl.Value{}), values(impl.Value{}), nil)
	wantStep(t, index, values(textOf("abc"), intOf(3)), values(textOf("c")), nil)
	wantStep(t, index, values(textOf("abc"), intOf(4)), values(impl.Value{}), nil)
	for _, c := range [][2]impl.Value{{{}, intOf(1)}, {intOf(1), tableOf(1)}, {tableOf(3), intOf(1)}, {tableOf(-1), intOf(1)}, {hostPrint, {}}, {{Kind: 9}, {}}} {
		wantFail(t, index, c[:], textOf("index"))
		wantFail(t, put, append(c[:], intOf(1)), textOf("index"))
	}
	first := someHeap().Tables[1]
	set := func(pairs ...impl.Pair) func(m *impl.Vm) { return func(m *impl.Vm) { m.Heap.Tables[1] = pairs } }
	wantStep(t, put, values(tableOf(1), textOf("k"), textOf("v")), nil, set(append(slices.Clone(first), pairOf(textOf("k"), textOf("v")))...))
	wantStep(t, put, values(tableOf(1), intOf(2), tableOf(1)), nil, set(pairOf(intOf(2), tableOf(1)), first[1], first[2], first[3]))
	wantStep(t, put, values(tableOf(1), intOf(2), impl.Value{}), nil, set(first[1:]...))
	wantFail(t, put, values(tableOf(1), impl.Value{}, intOf(1)), textOf("index"))
	wantFail(t, put, values(textOf("abc"), intOf(1), textOf("x")), textOf("index"))
	wantStep(t, impl.Instr{Op: impl.OpTable}, nil, values(tableOf(3)), func(m *impl.Vm) { m.Heap.Tables = append(m.Heap.Tables, nil) })
	list, m := bench(put, tableOf(1), intOf(201), intOf(5))
	m.Heap.Tables[1] = longTable(200)
	wantFailFrom(t, list, m, textOf("index"), func(m *impl.Vm) {})
	m.Heap.Tables[1] = longTable(199)
	wantStepFrom(t, list, m, func(m *impl.Vm) {
		topOf(m).Stack = nil
		m.Heap.Tables[1] = append(m.Heap.Tables[1], pairOf(intOf(201), intOf(5)))
	})
}

func TestStepOfOperations(t *testing.T) {
	bin := func(op string) impl.Instr { return impl.Instr{Op: impl.OpBin, S: op} }
	for _, c := range []struct {
		op         string
		a, b, want impl.Value
	}{
		{"+", intOf(7), intOf(2), intOf(9)}, {"-", intOf(7), intOf(2), intOf(5)}, {"*", intOf(7), intOf(2), intOf(14)}, {"//", intOf(-7), intOf(2), intOf(-4)}, {"%", intOf(-7), intOf(2), intOf(1)},
		{"+", intOf(math.MaxInt), intOf(1), intOf(math.MinInt)}, {"..", textOf("a"), intOf(2), textOf("a2")}, {"..", textOf(""), textOf(""), textOf("")},
		{"==", intOf(1), intOf(1), boolOf(true)}, {"==", intOf(1), textOf("1"), boolOf(false)}, {"~=", tableOf(0), tableOf(1), boolOf(true)},
		{"<", intOf(1), intOf(2), boolOf(true)}, {"<=", intOf(3), intOf(2), boolOf(false)}, {">", textOf("b"), textOf("a"), boolOf(true)}, {">=", textOf("a"), textOf("b"), boolOf(false)},
	} {
		wantStep(t, bin(c.op), values(c.a, c.b), values(c.want), nil)
	}
	for _, op := range arithSigns {
		wantFail(t, bin(op), values(impl.Value{}, intOf(1)), textOf("arith"))
		wantFail(t, bin(op), values(intOf(1), textOf("1")), textOf("arith"))
	}
	for _, op := range []string{"//", "%"} {
		wantFail(t, bin(op), values(intOf(1), intOf(0)), textOf("divide"))
	}
	for _, op := range compareSigns[2:] {
		wantFail(t, bin(op), values(intOf(1), textOf("1")), textOf("compare"))
		wantFail(t, bin(op), values(impl.Value{}, impl.Value{}), textOf("compare"))
	}
	wantFail(t, bin(".."), values(textOf("a"), impl.Value{}), textOf("concat"))
	wantFail(t, bin(".."), values(textOf(strings.Repeat("x", impl.MaxText)), intOf(1)), textOf("concat"))
	wantStep(t, bin(".."), values(textOf(strings.Repeat("x", impl.MaxText-1)), intOf(1)), values(textOf(strings.Repeat("x", impl.MaxText-1)+"1")), nil)
	for _, op := range []string{"", "?", "and", "not", "#", " +"} {
		wantFail(t, bin(op), values(intOf(1), intOf(1)), textOf("arith"))
	}
	un := func(op string) impl.Instr { return impl.Instr{Op: impl.OpUn, S: op} }
	wantStep(t, un("not"), values(impl.Value{}), values(boolOf(true)), nil)
	wantStep(t, un("not"), values(intOf(0)), values(boolOf(false)), nil)
	wantStep(t, un("-"), values(intOf(5)), values(intOf(-5)), nil)
	wantStep(t, un("#"), values(textOf("abc")), values(intOf(3)), nil)
	wantStep(t, un("#"), values(tableOf(1)), values(intOf(2)), nil)
	wantFail(t, un("-"), values(textOf("1")), textOf("arith"))
	wantFail(t, un("#"), values(intOf(1)), textOf("length"))
	wantFail(t, un("#"), values(tableOf(3)), textOf("length"))
	for _, op := range []string{"", "+", "--", "and", "NOT"} {
		wantFail(t, un(op), values(intOf(1)), textOf("unary"))
	}
}

func TestStepOfFunc(t *testing.T) {
	made := func(c impl.Closure) func(m *impl.Vm) { return func(m *impl.Vm) { m.Funs = append(m.Funs, c) } }
	wantStep(t, impl.Instr{Op: impl.OpFunc, A: 1}, nil, values(funcOf(5)), made(impl.Closure{Proto: 1, Ups: []int{2, 3}}))
	wantStep(t, impl.Instr{Op: impl.OpFunc, A: 2}, nil, values(funcOf(5)), made(impl.Closure{Proto: 2, Ups: []int{0, 3, 2}}))
	wantStep(t, impl.Instr{Op: impl.OpFunc, A: 3}, nil, values(funcOf(5)), made(impl.Closure{Proto: 3}))
	wantStep(t, impl.Instr{Op: impl.OpFunc, A: 4}, nil, values(funcOf(5)), made(impl.Closure{Proto: 4}))
	list, m := bench(impl.Instr{Op: impl.OpFunc, A: 3})
	m.Funs = nil
	wantStepFrom(t, list, m, func(m *impl.Vm) {
		m.Funs = []impl.Closure{{Proto: 3}}
		topOf(m).Stack = values(funcOf(0))
	})
}

// entered is a frame that is ahead of its first instruction, with cells for its parameters.
func entered(proto int, slots []int, ups []int, cells ...impl.Value) func(m *impl.Vm) {
	return func(m *impl.Vm) {
		m.Heap.Cells = append(m.Heap.Cells, cells...)
		m.Frames = append(m.Frames, impl.Frame{Proto: proto, Slots: slots, Ups: ups})
	}
}

func guarded(change func(m *impl.Vm)) func(m *impl.Vm) {
	return func(m *impl.Vm) {
		change(m)
		topOf(m).Guard = true
	}
}

func TestStepOfCallsOfFunctions(t *testing.T) {
	nought := impl.Value{}
	x, y, z := textOf("x"), intOf(2), tableOf(0)
	for count, cells := range [][]impl.Value{{nought, nought}, {x, nought}, {x, y}, {x, y}, {x, y}} {
		stack := append(values(funcOf(0)), values(x, y, z, nought)[:count]...)
		wantStep(t, impl.Instr{Op: impl.OpCall, A: count}, stack, nil, entered(2, []int{4, 5, -1}, []int{3, 1, 0}, cells...))
	}
	wantStep(t, impl.Instr{Op: impl.OpCall, A: 2}, values(funcOf(1), nought, x), nil, entered(1, []int{4, -1, -1}, []int{0, 2}, nought))
	wantStep(t, impl.Instr{Op: impl.OpCall, A: 0}, values(funcOf(2)), nil, entered(3, nil, nil))
	wantStep(t, impl.Instr{Op: impl.OpCall, A: 8}, values(funcOf(2), x, x, x, x, x, x, x, x), nil, entered(3, nil, nil))
	wide := append([]int{4, 5, 6, 7, 8, 9, 10, 11}, slices.Repeat([]int{-1}, 192)...)
	wantStep(t, impl.Instr{Op: impl.OpCall, A: 8}, values(funcOf(3), x, y, z, x, y, z, x, y), nil, entered(4, wide, nil, x, y, z, x, y, z, x, y))
	wantStep(t, impl.Instr{Op: impl.OpCall, A: 1}, values(funcOf(3), x), nil, entered(4, wide, nil, x, nought, nought, nought, nought, nought, nought, nought))
	// The program's own proto is one, too.
	wantStep(t, impl.Instr{Op: impl.OpCall, A: 1}, values(funcOf(4), x), nil, entered(0, []int{-1}, nil))
}

func TestStepOfCallsOfHosts(t *testing.T) {
	t.Parallel()
	printed := func(s string) func(m *impl.Vm) { return func(m *impl.Vm) { m.Out = append(m.Out, s) } }
	nought := impl.Value{}
	call := func(count int) impl.Instr { return impl.Instr{Op: impl.OpCall, A: count} }
	wantStep(t, call(0), values(hostPrint), values(nought), printed("nil"))
	for _, v := range anyValues() {
		wantStep(t, call(1), values(hostPrint, v), values(nought), printed(impl.ShowValue(v)))
		wantStep(t, call(3), values(hostPrint, v, intOf(1), intOf(2)), values(nought), printed(impl.ShowValue(v)))
		wantFail(t, call(1), values(hostError, v), v)
		wantFail(t, call(2), values(hostError, v, intOf(1)), v)
		if v.Kind != impl.KFunc && (v.Kind != impl.KHost || v.N < 0 || v.N > 2) {
			wantFail(t, call(0), values(v), textOf("call"))
			wantFail(t, call(2), values(v, hostPrint, hostError), textOf("call"))
			wantStep(t, call(1), values(hostTry, v), values(textOf("call")), nil)
			wantStep(t, call(2), values(hostTry, v, hostPrint), values(textOf("call")), nil)
		}
	}
	wantFail(t, call(0), values(hostError), nought)
	for _, n := range []int{-1, 3, 4, math.MaxInt, math.MinInt} {
		wantFail(t, call(1), values(hostOf(n), intOf(1)), textOf("call"))
		wantStep(t, call(1), values(hostTry, hostOf(n)), values(textOf("call")), nil)
	}
	wantStep(t, call(0), values(hostTry), values(textOf("call")), nil)
	wantStep(t, call(1), values(hostTry, hostPrint), values(nought), printed("nil"))
	wantStep(t, call(2), values(hostTry, hostPrint, intOf(7)), values(nought), printed("nil"))
	wantStep(t, call(1), values(hostTry, hostError), values(textOf("nil")), nil)
	wantStep(t, call(2), values(hostTry, hostError, intOf(7)), values(textOf("nil")), nil)
	wantStep(t, call(1), values(hostTry, hostTry), values(nought), nil)
	wantStep(t, call(3), values(hostTry, hostTry, hostTry, hostError), values(nought), nil)
	wantStep(t, call(1), values(hostTry, funcOf(2)), nil, guarded(entered(3, nil, nil)))
	wantStep(t, call(3), values(hostTry, funcOf(0), intOf(1), intOf(2)), nil, guarded(entered(2, []int{4, 5, -1}, []int{3, 1, 0}, nought, nought)))
}

func TestStepOfJumps(t *testing.T) {
	t.Parallel()
	to := func(pc int) func(m *impl.Vm) { return func(m *impl.Vm) { topOf(m).Pc = pc } }
	// A place may be the one behind all instructions, where there is none.
	for pc := 0; pc <= 5; pc++ {
		wantStep(t, impl.Instr{Op: impl.OpJump, A: pc}, nil, nil, to(pc))
		for _, v := range anyValues() {
			if impl.Truth(v) {
				wantStep(t, impl.Instr{Op: impl.OpFalse, A: pc}, values(v), nil, nil)
				wantStep(t, impl.Instr{Op: impl.OpAnd, A: pc}, values(v), nil, nil)
				wantStep(t, impl.Instr{Op: impl.OpOr, A: pc}, values(v), values(v), to(pc))
			} else {
				wantStep(t, impl.Instr{Op: impl.OpFalse, A: pc}, values(v), nil, to(pc))
				wantStep(t, impl.Instr{Op: impl.OpAnd, A: pc}, values(v), values(v), to(pc))
				wantStep(t, impl.Instr{Op: impl.OpOr, A: pc}, values(v), nil, nil)
			}
		}
	}
	for _, v := range anyValues() {
		wantStep(t, impl.Instr{Op: impl.OpPop, A: 1}, values(v), nil, nil)
	}
}

func TestStepOfReturn(t *testing.T) {
	in := impl.Instr{Op: impl.OpReturn}
	for _, v := range anyValues() {
		list, m := bench(in, intOf(1), v)
		for _, guards := range [][3]bool{{}, {false, false, true}, {true, true, false}, {true, true, true}} {
			for i := range m.Frames {
				m.Frames[i].Guard = guards[i]
			}
			wantStepFrom(t, list, m, func(m *impl.Vm) {
				told := v
				if guards[2] {
					told = impl.Value{}
				}
				m.Frames = m.Frames[:2]
				topOf(m).Stack = append(topOf(m).Stack, told)
			})
			// The first frame is the last one that goes, and what it leaves is the machine's value.
			alone := copyOf(m)
			alone.Frames = alone.Frames[2:]
			wantStepFrom(t, list, alone, func(m *impl.Vm) { m.Kind, m.Value, m.Frames = impl.VmDone, v, nil })
		}
	}
}

func TestStepOfRaise(t *testing.T) {
	for _, s := range []string{"name", "break", "", "nil", "a\nb\xff"} {
		wantFail(t, impl.Instr{Op: impl.OpRaise, S: s, V: intOf(1), A: 5}, values(intOf(3)), textOf(s))
	}
}

// heapFull has so many cells and tables.
func heapFull(cells int, tables int) impl.Heap {
	h := impl.Heap{Tables: make([][]impl.Pair, tables), Cells: make([]impl.Value, cells)}
	for i := range h.Cells {
		h.Cells[i] = intOf(i)
	}
	return h
}

func TestLimitOfCells(t *testing.T) {
	for _, cells := range []int{impl.MaxCells - 1, impl.MaxCells, impl.MaxCells + 1} {
		list, m := bench(impl.Instr{Op: impl.OpNew, A: 2}, textOf("v"))
		m.Heap = heapFull(cells, 0)
		if cells < impl.MaxCells {
			wantStepFrom(t, list, m, func(m *impl.Vm) {
				m.Heap.Cells = append(m.Heap.Cells, textOf("v"))
				topOf(m).Slots[2], topOf(m).Stack = cells, nil
			})
		} else {
			wantFailFrom(t, list, m, textOf("cells"), nil)
		}
	}
	// A function of two parameters: those that can be made stay, where one can not.
	for room := range 3 {
		for _, in := range []impl.Value{funcOf(0), hostTry} {
			list, m := bench(impl.Instr{Op: impl.OpCall, A: 2}, in, funcOf(0), textOf("b"))
			m.Heap = heapFull(impl.MaxCells-room, 0)
			tried := in == hostTry
			cells := values(funcOf(0), textOf("b"))
			if tried {
				cells = make([]impl.Value, 2)
			}
			filled := func(m *impl.Vm) { m.Heap.Cells = append(m.Heap.Cells, cells[:room]...) }
			switch {
			case room == 2:
				wantStepFrom(t, list, m, func(m *impl.Vm) {
					topOf(m).Stack = nil
					entered(2, []int{2998, 2999, -1}, []int{3, 1, 0}, cells...)(m)
					topOf(m).Guard = tried
				})
			case tried:
				// What try does comes to an error at once: it is caught by no other one.
				for i := range m.Frames {
					m.Frames[i].Guard = i > 0
				}
				wantStepFrom(t, list, m, func(m *impl.Vm) {
					filled(m)
					topOf(m).Stack = values(textOf("cells"))
				})
			default:
				wantFailFrom(t, list, m, textOf("cells"), filled)
			}
		}
	}
	// What makes no cell does not want one.
	list, m := bench(impl.Instr{Op: impl.OpCall, A: 1}, funcOf(2), intOf(1))
	m.Heap = heapFull(impl.MaxCells, 0)
	wantStepFrom(t, list, m, func(m *impl.Vm) {
		topOf(m).Stack = nil
		entered(3, nil, nil)(m)
	})
}

func TestLimitOfTables(t *testing.T) {
	for _, tables := range []int{499, 500, 501} {
		list, m := bench(impl.Instr{Op: impl.OpTable}, textOf("v"))
		m.Heap = heapFull(4, tables)
		if tables < 500 {
			wantStepFrom(t, list, m, func(m *impl.Vm) {
				m.Heap.Tables = append(m.Heap.Tables, nil)
				topOf(m).Stack = values(textOf("v"), tableOf(499))
			})
		} else {
			wantFailFrom(t, list, m, textOf("tables"), nil)
		}
	}
}

func TestLimitOfLines(t *testing.T) {
	for _, lines := range []int{impl.MaxLines - 1, impl.MaxLines, impl.MaxLines + 1} {
		list, m := bench(impl.Instr{Op: impl.OpCall, A: 1}, hostPrint, textOf("v"))
		m.Out = slices.Repeat([]string{"line"}, lines)
		tried := copyOf(m)
		topOf(&tried).Stack = values(hostTry, hostPrint)
		topOf(&tried).Guard = true
		if lines < impl.MaxLines {
			for s, given := range map[string]impl.Vm{"v": m, "nil": tried} {
				wantStepFrom(t, list, given, func(m *impl.Vm) {
					m.Out = append(m.Out, s)
					topOf(m).Stack = values(impl.Value{})
				})
			}
		} else {
			wantFailFrom(t, list, m, textOf("full"), nil)
			wantStepFrom(t, list, tried, func(m *impl.Vm) { topOf(m).Stack = values(textOf("full")) })
		}
	}
}

func TestLimitOfCalls(t *testing.T) {
	for _, behind := range []int{impl.MaxCalls - 1, impl.MaxCalls, impl.MaxCalls + 1} {
		list, m := bench(impl.Instr{Op: impl.OpCall, A: 1}, funcOf(1), textOf("v"))
		m.Frames = append(slices.Repeat(m.Frames[:1], behind), m.Frames[2])
		tried := copyOf(m)
		topOf(&tried).Stack = values(hostTry, funcOf(1))
		topOf(&tried).Guard = true
		if behind < impl.MaxCalls {
			wantStepFrom(t, list, m, func(m *impl.Vm) {
				topOf(m).Stack = nil
				entered(1, []int{4, -1, -1}, []int{0, 2}, textOf("v"))(m)
			})
			wantStepFrom(t, list, tried, func(m *impl.Vm) {
				topOf(m).Stack = nil
				guarded(entered(1, []int{4, -1, -1}, []int{0, 2}, impl.Value{}))(m)
			})
		} else {
			wantFailFrom(t, list, m, textOf("deep"), nil)
			wantStepFrom(t, list, tried, func(m *impl.Vm) { topOf(m).Stack = values(textOf("deep")) })
			// As for the tree, a call that is too deep makes no cell.
			m.Heap = heapFull(impl.MaxCells-1, 0)
			wantFailFrom(t, list, m, textOf("deep"), nil)
			m.Heap = heapFull(impl.MaxCells, 0)
			wantFailFrom(t, list, m, textOf("deep"), nil)
		}
		// Hosts are no frames.
		topOf(&m).Stack = values(hostTry, hostError)
		wantStepFrom(t, list, m, func(m *impl.Vm) { topOf(m).Stack = values(textOf("nil")) })
	}
}

func TestTooFewValues(t *testing.T) {
	for op, count := range map[int]int{
		impl.OpSetLocal: 1, impl.OpSetUp: 1, impl.OpNew: 1, impl.OpIndex: 2, impl.OpPut: 3, impl.OpBin: 2, impl.OpUn: 1,
		impl.OpFalse: 1, impl.OpAnd: 1, impl.OpOr: 1, impl.OpPop: 1, impl.OpReturn: 1,
	} {
		for few := range count {
			wantBad(t, impl.Instr{Op: op, S: "=="}, slices.Repeat(values(intOf(1)), few)...)
		}
	}
	for arguments := range 9 {
		for few := range arguments + 1 {
			wantBad(t, impl.Instr{Op: impl.OpCall, A: arguments}, slices.Repeat(values(hostPrint), few)...)
			wantBad(t, impl.Instr{Op: impl.OpCall, A: arguments}, slices.Repeat(values(funcOf(2)), few)...)
		}
	}
	// Other frames' values are not to be taken, nor is an error ahead of what is not there.
	list, m := bench(impl.Instr{Op: impl.OpNew})
	m.Heap = heapFull(impl.MaxCells, 0)
	wantBadFrom(t, list, m)
	list, m = bench(impl.Instr{Op: impl.OpReturn})
	m.Frames = m.Frames[2:]
	wantBadFrom(t, list, m)
}

func TestSlotsAndUpsThatAreNone(t *testing.T) {
	changed := func(op int, a int, change func(f *impl.Frame)) {
		t.Helper()
		list, m := bench(impl.Instr{Op: op, A: a}, values(intOf(1), intOf(2))...)
		topOf(&m).Guard = true
		change(topOf(&m))
		wantBadFrom(t, list, m)
	}
	for _, cell := range []int{-1, -2, 4, 5, math.MaxInt, math.MinInt} {
		for a := range 2 {
			slot, up := func(f *impl.Frame) { f.Slots[a] = cell }, func(f *impl.Frame) { f.Ups[a] = cell }
			changed(impl.OpLocal, a, slot)
			changed(impl.OpSetLocal, a, slot)
			changed(impl.OpUp, a, up)
			changed(impl.OpSetUp, a, up)
			changed(impl.OpFunc, 2, slot)
		}
		changed(impl.OpFunc, 1, func(f *impl.Frame) { f.Slots[0] = cell })
		changed(impl.OpFunc, 1, func(f *impl.Frame) { f.Ups[0] = cell })
	}
	for _, op := range []int{impl.OpLocal, impl.OpSetLocal, impl.OpNew} {
		changed(op, 0, func(f *impl.Frame) { f.Slots = nil })
		changed(op, 1, func(f *impl.Frame) { f.Slots = f.Slots[:1] })
		changed(op, 2, func(f *impl.Frame) { f.Slots = f.Slots[:2] })
	}
	for _, op := range []int{impl.OpUp, impl.OpSetUp} {
		changed(op, 0, func(f *impl.Frame) { f.Ups = nil })
		changed(op, 1, func(f *impl.Frame) { f.Ups = f.Ups[:1] })
	}
	changed(impl.OpFunc, 1, func(f *impl.Frame) { f.Slots = nil })
	changed(impl.OpFunc, 1, func(f *impl.Frame) { f.Ups = nil })
	changed(impl.OpFunc, 2, func(f *impl.Frame) { f.Slots = f.Slots[:1] })
	for _, at := range []int{-1, 3, math.MaxInt, math.MinInt} {
		for i := range 3 {
			list, m := bench(impl.Instr{Op: impl.OpFunc, A: 2})
			list[2].Ups[i].At = at
			wantBadFrom(t, list, m)
		}
	}
	// No slot for a new cell is not there even where no cell is to be had.
	list, m := bench(impl.Instr{Op: impl.OpNew, A: 2}, intOf(1))
	m.Heap = heapFull(impl.MaxCells, 0)
	topOf(&m).Slots = topOf(&m).Slots[:2]
	wantBadFrom(t, list, m)
	// No cells at all.
	for _, op := range []int{impl.OpLocal, impl.OpUp, impl.OpSetLocal, impl.OpSetUp} {
		list, m := bench(impl.Instr{Op: op}, intOf(1))
		m.Heap.Cells = nil
		wantBadFrom(t, list, m)
	}
}

func TestFramesAndFunctionsThatAreNone(t *testing.T) {
	pop := impl.Instr{Op: impl.OpPop}
	list, m := bench(pop, intOf(1))
	m.Frames = nil
	wantBadFrom(t, list, m)
	m.Frames = []impl.Frame{}
	wantBadFrom(t, list, m)
	wantBadFrom(t, list, impl.Vm{})
	for _, n := range []int{-1, 6, 7, math.MaxInt, math.MinInt} {
		list, m = bench(pop, intOf(1))
		topOf(&m).Proto = n
		wantBadFrom(t, list, m)
		// A frame that does not run is not asked for its proto, nor for its place.
		list, m = bench(pop, intOf(1))
		m.Frames[0].Proto, m.Frames[1].Proto, m.Frames[1].Pc = n, n, n
		wantStepFrom(t, list, m, func(m *impl.Vm) { topOf(m).Stack = nil })
	}
	for _, pc := range []int{-1, 5, 6, math.MaxInt, math.MinInt} {
		list, m = bench(pop, intOf(1))
		topOf(&m).Pc = pc
		wantBadFrom(t, list, m)
	}
	list, m = bench(pop, intOf(1))
	topOf(&m).Proto, topOf(&m).Pc = 5, 0
	wantBadFrom(t, list, m)
	for _, n := range []int{-1, 5, 6, math.MaxInt, math.MinInt} {
		wantBad(t, impl.Instr{Op: impl.OpCall}, funcOf(n))
		wantBad(t, impl.Instr{Op: impl.OpCall, A: 2}, funcOf(n), intOf(1), intOf(1))
		wantBad(t, impl.Instr{Op: impl.OpCall, A: 1}, hostTry, funcOf(n))
	}
	for _, n := range []int{-1, 6, math.MaxInt, math.MinInt} {
		for _, stack := range [][]impl.Value{{intOf(1), funcOf(2)}, {hostTry, funcOf(2)}} {
			list, m = bench(impl.Instr{Op: impl.OpCall, A: 1}, stack...)
			if stack[0] != hostTry {
				list, m = bench(impl.Instr{Op: impl.OpCall}, stack...)
			}
			m.Funs[2].Proto = n
			topOf(&m).Guard = true
			wantBadFrom(t, list, m)
			// Nor is it there where no call can be done.
			m.Frames = slices.Concat(slices.Repeat(m.Frames[:1], 40), m.Frames)
			wantBadFrom(t, list, m)
		}
	}
}

func TestListsThatAreNotRight(t *testing.T) {
	for _, list := range wrongLists() {
		_, m := bench(impl.Instr{}, intOf(1))
		wantBadFrom(t, list, m)
		m.Frames = []impl.Frame{{Slots: []int{-1}}}
		wantBadFrom(t, list, m)
		m.Frames = nil
		wantBadFrom(t, list, m)
		wantBadFrom(t, list, impl.Vm{Value: textOf("kept"), Steps: -5})
		for kind := range 3 {
			wantSameVm(t, stepOf(t, list, impl.Vm{Kind: kind + 1}), impl.Vm{Kind: kind + 1})
		}
	}
}

// A machine whose Kind is not VmRuns takes no step, whatever it has.
func TestEndedMachines(t *testing.T) {
	for _, kind := range []int{impl.VmDone, impl.VmError, impl.VmBad, 4, 5, -1, 1000, math.MaxInt, math.MinInt} {
		for _, list := range append(wrongLists(), []impl.Proto{{Code: []impl.Instr{{}}}}) {
			_, m := bench(impl.Instr{}, intOf(1))
			m.Kind, m.Value = kind, textOf("v")
			topOf(&m).Guard = true
			wantSameVm(t, stepOf(t, list, m), m)
			for _, n := range []int{math.MinInt, -1, 0, 1, 3000, math.MaxInt} {
				wantSameVm(t, impl.VmRun(list, m, n), m)
			}
			m.Frames, m.Funs, m.Out, m.Heap = nil, []impl.Closure{}, nil, impl.Heap{}
			wantSameVm(t, stepOf(t, list, m), m)
		}
	}
}

func TestVmOutcome(t *testing.T) {
	for _, kind := range []int{impl.VmRuns, impl.VmDone, impl.VmError, impl.VmBad, 4, -1, math.MaxInt, math.MinInt} {
		for _, v := range anyValues() {
			for _, lines := range [][]string{nil, {""}, {"a", "b\n", "c"}, slices.Repeat([]string{"x"}, 300)} {
				_, m := bench(impl.Instr{}, intOf(1))
				m.Kind, m.Value, m.Out = kind, v, lines
				want := impl.Outcome{Kind: impl.EndFuel, Out: lines}
				switch kind {
				case impl.VmDone:
					want.Kind, want.Value = impl.EndDone, v
				case impl.VmError:
					want.Kind, want.Value = impl.EndError, v
				}
				o := asked(t, nil, m, func(list []impl.Proto, m impl.Vm) impl.Outcome { return impl.VmOutcome(m) })
				if o.Kind != want.Kind || o.Value != want.Value || !slices.Equal(o.Out, want.Out) {
					t.Fatal("outcome of kind", kind, told("", v), "is", o.Kind, told("", o.Value))
				}
			}
		}
	}
}

func wantLine(t *testing.T, list []impl.Proto, m impl.Vm, want int) {
	t.Helper()
	got := asked(t, list, m, impl.VmLine)
	if got != want {
		t.Fatalf("VmLine of %.900s: %d, not %d", vmWords(m), got, want)
	}
}

func TestVmLine(t *testing.T) {
	for _, line := range []int{6, 0, -3, math.MaxInt, math.MinInt} {
		list, m := bench(impl.Instr{Op: impl.OpPop, Line: line})
		wantLine(t, list, m, line)
	}
	list, m := bench(impl.Instr{Op: impl.OpPop, Line: 6})
	for pc, want := range []int{4, 5, 6, 7, 8, 0, 0} {
		topOf(&m).Pc = pc
		wantLine(t, list, m, want)
	}
	for _, pc := range []int{-1, math.MinInt, math.MaxInt} {
		topOf(&m).Pc = pc
		wantLine(t, list, m, 0)
	}
	for proto, want := range []int{1, 4, 9, 11, 0, 0, 0} {
		topOf(&m).Proto, topOf(&m).Pc = proto, 0
		wantLine(t, list, m, want)
	}
	for _, proto := range []int{-1, math.MinInt, math.MaxInt} {
		topOf(&m).Proto = proto
		wantLine(t, list, m, 0)
	}
	list, m = bench(impl.Instr{Op: impl.OpPop, Line: 6})
	for _, kind := range []int{impl.VmDone, impl.VmError, impl.VmBad, 4, -1} {
		ended := copyOf(m)
		ended.Kind = kind
		wantLine(t, list, ended, 0)
	}
	wantLine(t, nil, m, 0)
	m.Frames = nil
	wantLine(t, list, m, 0)
	wantLine(t, list, impl.Vm{}, 0)
	wantLine(t, nil, impl.Vm{}, 0)
}

// differing tells machines that are the one of a bench but for one thing.
func differing() []impl.Vm {
	var list []impl.Vm
	add := func(changes ...func(m *impl.Vm)) {
		for _, change := range changes {
			_, m := bench(impl.Instr{}, intOf(1), textOf("x"))
			m.Value = textOf("v")
			change(&m)
			list = append(list, m)
		}
	}
	add(func(m *impl.Vm) {},
		func(m *impl.Vm) { m.Steps++ }, func(m *impl.Vm) { m.Kind = impl.VmDone }, func(m *impl.Vm) { m.Kind = -1 },
		func(m *impl.Vm) { m.Value = textOf("w") }, func(m *impl.Vm) { m.Value.N = 1 }, func(m *impl.Vm) { m.Value.Kind = impl.KNil }, func(m *impl.Vm) { m.Value = impl.Value{} },
		func(m *impl.Vm) { m.Out = nil }, func(m *impl.Vm) { m.Out = m.Out[:1] }, func(m *impl.Vm) { m.Out[1] = "x" }, func(m *impl.Vm) { m.Out[0], m.Out[1] = m.Out[1], m.Out[0] }, func(m *impl.Vm) { m.Out = append(m.Out, "") },
		func(m *impl.Vm) { m.Heap.Cells = nil }, func(m *impl.Vm) { m.Heap.Cells = m.Heap.Cells[:3] }, func(m *impl.Vm) { m.Heap.Cells[3].N = 0 }, func(m *impl.Vm) { m.Heap.Cells[0].S = "" }, func(m *impl.Vm) { m.Heap.Cells = append(m.Heap.Cells, impl.Value{}) },
		func(m *impl.Vm) { m.Heap.Tables = nil }, func(m *impl.Vm) { m.Heap.Tables = m.Heap.Tables[:2] }, func(m *impl.Vm) { m.Heap.Tables = append(m.Heap.Tables, nil) },
		func(m *impl.Vm) { m.Heap.Tables[1][2].Key.N = 9 }, func(m *impl.Vm) { m.Heap.Tables[1][2].Val.S = "9" }, func(m *impl.Vm) { m.Heap.Tables[1] = m.Heap.Tables[1][:3] },
		func(m *impl.Vm) { p := m.Heap.Tables[1]; p[0], p[1] = p[1], p[0] }, func(m *impl.Vm) { m.Heap.Tables[2] = row(intOf(1)) }, func(m *impl.Vm) { h := m.Heap.Tables; h[0], h[2] = h[2], h[0] },
		func(m *impl.Vm) { m.Funs = nil }, func(m *impl.Vm) { m.Funs = m.Funs[:4] }, func(m *impl.Vm) { m.Funs = append(m.Funs, impl.Closure{}) }, func(m *impl.Vm) { m.Funs[4].Proto = 1 }, func(m *impl.Vm) { m.Funs[0].Ups[2] = 1 }, func(m *impl.Vm) { m.Funs[0].Ups = nil }, func(m *impl.Vm) { m.Funs[2].Ups = []int{0} },
		func(m *impl.Vm) { m.Frames = nil }, func(m *impl.Vm) { m.Frames = m.Frames[:2] }, func(m *impl.Vm) { m.Frames = append(m.Frames, impl.Frame{}) })
	for i := range 3 {
		add(func(m *impl.Vm) { m.Frames[i].Proto += 9 }, func(m *impl.Vm) { m.Frames[i].Pc += 9 }, func(m *impl.Vm) { m.Frames[i].Guard = true },
			func(m *impl.Vm) { m.Frames[i].Slots[0] = 9 }, func(m *impl.Vm) { m.Frames[i].Slots = nil }, func(m *impl.Vm) { m.Frames[i].Slots = append(m.Frames[i].Slots, -1) },
			func(m *impl.Vm) { m.Frames[i].Ups = append(m.Frames[i].Ups, 0) }, func(m *impl.Vm) { m.Frames[i].Stack = append(m.Frames[i].Stack, impl.Value{}) },
			func(m *impl.Vm) { m.Frames[i].Stack = nil }, func(m *impl.Vm) { m.Frames[i].Stack[0].S += "9" }, func(m *impl.Vm) { m.Frames[i].Stack[0].N = 9 })
		if i > 0 {
			add(func(m *impl.Vm) { m.Frames[i].Ups = nil }, func(m *impl.Vm) { m.Frames[i].Ups[1] = 9 }, func(m *impl.Vm) { m.Frames[i].Stack = m.Frames[i].Stack[:1] })
		}
	}
	return append(list, impl.Vm{})
}

func TestSameVm(t *testing.T) {
	list := differing()
	for i, a := range list {
		for j, b := range list {
			given, other := roomyCopyOf(a), roomyCopyOf(b)
			wantA, wantB := everything(given), everything(other)
			if impl.SameVm(given, other) != (i == j) {
				t.Fatalf("SameVm is %v of\n%s\n%s", i != j, vmWords(a), vmWords(b))
			}
			if everything(given) != wantA || everything(other) != wantB {
				t.Fatal("written into an argument")
			}
		}
	}
	// Lists of none are alike, be they nil or not.
	none := impl.Vm{Heap: impl.Heap{Tables: [][]impl.Pair{nil}}, Funs: []impl.Closure{{}}, Frames: []impl.Frame{{}}}
	empty := impl.Vm{
		Heap:   impl.Heap{Tables: [][]impl.Pair{{}}, Cells: []impl.Value{}},
		Funs:   []impl.Closure{{Ups: []int{}}},
		Frames: []impl.Frame{{Slots: []int{}, Ups: []int{}, Stack: []impl.Value{}}},
		Out:    []string{},
	}
	wantSameVm(t, none, empty)
	wantSameVm(t, impl.Vm{}, impl.Vm{Heap: impl.Heap{Tables: [][]impl.Pair{}}, Funs: []impl.Closure{}, Frames: []impl.Frame{}})
	if impl.SameVm(none, impl.Vm{}) || impl.SameVm(impl.Vm{}, empty) {
		t.Error("a list of one is none of none")
	}
}

func TestVmRunCounts(t *testing.T) {
	n, _ := impl.Read("local i = 0 while true do i = i + 1 end")
	list, _ := impl.Compile(n)
	start := impl.VmStart(list)
	for steps, want := range map[int]int{math.MinInt: 0, -1: 0, 0: 0, 1: 1, 2: 2, 100: 100, 2999: 2999, impl.MaxRun: 3000, impl.MaxRun + 1: 3000, 6000: 3000, math.MaxInt: 3000} {
		m := asked(t, list, start, func(list []impl.Proto, m impl.Vm) impl.Vm { return impl.VmRun(list, m, steps) })
		if m.Steps != want || m.Kind != impl.VmRuns {
			t.Error(steps, "steps:", m.Steps, m.Kind)
		}
		wantSameVm(t, m, elderTurns(list, start, want))
	}
	// Steps are counted on, and go around.
	for _, at := range []int{-7, 5000, math.MaxInt, math.MinInt} {
		m := copyOf(start)
		m.Steps = at
		if got := impl.VmRun(list, m, 3).Steps; got != at+3 {
			t.Error("Steps behind", strconv.Itoa(at), got)
		}
	}
}
