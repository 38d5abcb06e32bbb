package tests

import (
	"math"
	"slices"
	"strings"
	"sync"
	"testing"

	"loop.example/g00258/impl"
)

// maker makes machines and code that mostly go together.
type maker struct {
	dice
	protos int
	cells  int
	slots  int
	ups    int
	length int
}

// rarely is true one time in so many.
func (d *dice) rarely(n int) bool { return d.below(n) == 0 }

// number is mostly below a bound.
func (d *maker) number(bound int) int {
	if bound <= 0 || d.rarely(150) {
		return []int{-1, bound, -2, math.MaxInt, math.MinInt}[d.below(5)]
	}
	return d.below(bound)
}

func (d *maker) numbers(count int, bound int) []int {
	var list []int
	for range count {
		list = append(list, d.number(bound))
	}
	return list
}

func (d *maker) value() impl.Value {
	switch d.below(9) {
	case 0, 1:
		return funcOf(d.number(4))
	case 2, 3:
		return hostOf(d.number(3))
	case 4:
		return tableOf(d.number(3))
	case 5:
		return intOf(d.below(4) - 1)
	case 6:
		return textOf([]string{"", "a", "abc", "nil"}[d.below(4)])
	case 7:
		return impl.Value{}
	}
	list := anyValues()
	return list[d.below(len(list))]
}

func (d *maker) someValues(most int) []impl.Value {
	var list []impl.Value
	for range d.below(most + 1) {
		list = append(list, d.value())
	}
	return list
}

func (d *maker) instr(p impl.Proto) impl.Instr {
	signs := slices.Concat(arithSigns, compareSigns, []string{"..", "not", "-", "#", "?", "not", "#"})
	in := impl.Instr{Op: d.number(20), V: d.value(), S: signs[d.below(len(signs))], Line: d.below(9)}
	switch in.Op {
	case impl.OpLocal, impl.OpSetLocal, impl.OpNew:
		in.A = d.number(p.Slots)
	case impl.OpUp, impl.OpSetUp:
		in.A = d.number(len(p.Ups))
	case impl.OpFunc:
		in.A = 1 + d.number(d.protos-1)
	case impl.OpCall:
		in.A = d.number(4)
	case impl.OpJump, impl.OpFalse, impl.OpAnd, impl.OpOr:
		in.A = d.number(d.length + 1)
	}
	return in
}

func (d *maker) code() []impl.Proto {
	var list []impl.Proto
	for number := range d.protos {
		p := impl.Proto{Slots: d.slots}
		if number > 0 {
			p.Params = d.below(d.slots + 1)
			for range d.ups {
				p.Ups = append(p.Ups, impl.Up{Local: d.rarely(2), At: d.number(min(d.slots, d.ups))})
			}
		}
		for range d.length {
			in := d.instr(p)
			// What can never be right is left out, mostly.
			for !rightByBounds(append(slices.Repeat([]impl.Proto{{}}, d.protos), impl.Proto{Slots: d.slots, Ups: p.Ups, Code: slices.Repeat([]impl.Instr{in}, d.length)})) && !d.rarely(400) {
				in = d.instr(p)
			}
			p.Code = append(p.Code, in)
		}
		list = append(list, p)
	}
	return list
}

func (d *maker) frame() impl.Frame {
	f := impl.Frame{Proto: d.number(d.protos), Pc: d.number(d.length), Slots: d.numbers(d.slots, d.cells), Ups: d.numbers(d.ups, d.cells), Stack: d.someValues(5), Guard: d.rarely(3)}
	if d.rarely(40) {
		f.Slots, f.Ups = d.numbers(d.below(3), d.cells), nil
	}
	return f
}

func (d *maker) vm() impl.Vm {
	m := impl.Vm{Steps: d.below(100)}
	for range d.below(4) {
		pairs := []impl.Pair{}
		for range d.below(3) {
			pairs = append(pairs, pairOf(d.value(), d.value()))
		}
		m.Heap.Tables = append(m.Heap.Tables, pairs)
	}
	for range d.cells {
		m.Heap.Cells = append(m.Heap.Cells, d.value())
	}
	for range 1 + d.below(4) {
		m.Funs = append(m.Funs, impl.Closure{Proto: d.number(d.protos), Ups: d.numbers(d.ups, d.cells)})
	}
	for range []int{0, 1, 1, 2, 2, 2, 3, 4}[d.below(8)] {
		m.Frames = append(m.Frames, d.frame())
	}
	for range d.below(3) {
		m.Out = append(m.Out, []string{"", "line", "x\n"}[d.below(3)])
	}
	if d.rarely(20) {
		m.Value = d.value()
	}
	if d.rarely(60) {
		m.Kind = []int{1, 2, 3, 4, -1, math.MaxInt}[d.below(6)]
	}
	if d.rarely(100) {
		d.fill(&m)
	}
	return m
}

// fill brings a machine near to a limit.
func (d *maker) fill(m *impl.Vm) {
	switch d.below(4) {
	case 0:
		m.Heap.Cells = append(m.Heap.Cells, make([]impl.Value, max(0, impl.MaxCells-len(m.Heap.Cells)-d.below(4)))...)
	case 1:
		m.Heap.Tables = append(m.Heap.Tables, make([][]impl.Pair, 500-len(m.Heap.Tables)-d.below(3))...)
	case 2:
		m.Out = append(m.Out, make([]string, impl.MaxLines-len(m.Out)-d.below(3))...)
	case 3:
		for len(m.Frames) < impl.MaxCalls+1-d.below(2) {
			m.Frames = append(m.Frames, d.frame())
		}
	}
}

// Promise 13, and what a step does: machines of any make, held against the second opinion.
func TestAnyMachines(t *testing.T) {
	t.Parallel()
	var ends [4]int
	var done [20]int
	words := map[string]int{}
	for seed := range 8000 {
		d := maker{dice: dice{seed: uint64(seed)}}
		d.protos, d.cells, d.slots, d.ups, d.length = 2+d.below(3), 1+d.below(5), 1+d.below(3), d.below(3), 1+d.below(6)
		list, m := d.code(), d.vm()
		want := elderTurn(list, m)
		wantSameVm(t, stepOf(t, list, m), want)
		if m.Kind != impl.VmRuns {
			continue
		}
		ends[want.Kind]++
		words[want.Value.S]++
		if want.Kind != impl.VmBad {
			f := topOf(&m)
			done[list[f.Proto].Code[f.Pc].Op]++
			if len(want.Frames) > 0 && len(want.Frames) < len(m.Frames) && len(topOf(&want).Stack) > 0 {
				stack := topOf(&want).Stack
				words[stack[len(stack)-1].S]++
			}
		}
		for _, n := range []int{2, 3, 10} {
			run := func(list []impl.Proto, m impl.Vm) impl.Vm { return impl.VmRun(list, m, n) }
			wantSameVm(t, asked(t, list, m, run), elderTurns(list, m, n))
		}
		line, f := 0, impl.Frame{Proto: -1}
		if len(m.Frames) > 0 {
			f = *topOf(&m)
		}
		if f.Proto >= 0 && f.Proto < len(list) && f.Pc >= 0 && f.Pc < len(list[f.Proto].Code) {
			line = list[f.Proto].Code[f.Pc].Line
		}
		wantLine(t, list, m, line)
	}
	if ends[impl.VmRuns] < 3000 || ends[impl.VmDone] < 50 || ends[impl.VmError] < 500 || ends[impl.VmBad] < 500 || slices.Min(done[:]) < 50 {
		t.Error("too few of a kind:", ends, done)
	}
	for _, word := range strings.Fields("arith compare concat length index call unary") {
		if words[word] < 5 {
			t.Error("too few of", word, words[word])
		}
	}
}

// partsOf asks for promise 6: so many steps and so many more are all of them, and the same as one by one.
func partsOf(t *testing.T, src string, counts []int, more []int) {
	t.Helper()
	n, line := impl.Read(src)
	list, ok := impl.Compile(n)
	if line != 0 || !ok {
		t.Fatal("no program", src)
	}
	start := impl.VmStart(list)
	for _, first := range counts {
		part := impl.VmRun(list, start, first)
		kept := vmWords(part)
		for _, second := range more {
			if first+second > impl.MaxRun {
				continue
			}
			whole, both := impl.VmRun(list, start, max(0, first)+second), impl.VmRun(list, part, second)
			if vmWords(whole) != vmWords(both) || !impl.SameVm(whole, both) {
				t.Fatalf("%.900s\n%d and %d steps:\n%.2000s\nnot\n%.2000s", src, first, second, vmWords(both), vmWords(whole))
			}
		}
		if vmWords(part) != kept {
			t.Fatal("a machine is changed by what is done behind it")
		}
	}
}

func TestRunsInParts(t *testing.T) {
	few := []int{-5, 0, 1, 2, 3, 4, 5, 8, 13, 40, 100, 101, 500, 1499, 1500, 2500, 2999, 3000}
	counts := slices.Concat(few, []int{7, 31, 60, 250, 333, 750})
	for _, src := range append(slices.Clone(lasting), everyForm, "", "return 5", "error()", "y = 1", "print(1) print(try(function() error(2) end)) return {}", "break",
		"local function f(n) return f(n + 1) end print(try(f, 1)) print(try(function() f(1) end))",
		"local i = 0 while i < 300 do i = i + 1 print(i) end", "local t = {} local i = 0 while true do i = i + 1 t[i] = {} end") {
		partsOf(t, src, counts, few[1:])
	}
}

// One by one a program's machine goes as VmRun says of as many steps, and as the second opinion does; it ends just once.
func TestOneByOne(t *testing.T) {
	for _, src := range append(slices.Clone(lasting), everyForm) {
		n, _ := impl.Read(src)
		list, _ := impl.Compile(n)
		start := impl.VmStart(list)
		m := start
		for step := 0; step <= 700; step++ {
			if m.Kind == impl.VmRuns && m.Steps != step {
				t.Fatal("Steps", m.Steps, "behind", step)
			}
			if step%7 == 0 || step > 640 {
				wantSameVm(t, impl.VmRun(list, start, step), m)
			}
			next := impl.VmStep(list, m)
			wantSameVm(t, next, elderTurn(list, m))
			if m.Kind != impl.VmRuns {
				wantSameVm(t, next, m)
			}
			m = next
		}
	}
}

// wantMeaning asks that a program's machine ends as its tree does with so much fuel, or still runs where that does not end.
func wantMeaning(t *testing.T, n impl.Node, fuel int) impl.Outcome {
	t.Helper()
	o := impl.Direct(n, fuel)
	if o.Kind != impl.EndFuel {
		wantMachine(t, n, ended(o))
		return o
	}
	list, _ := impl.Compile(n)
	m := endOf(list, impl.VmStart(list), 3)
	if m.Kind != impl.VmRuns {
		// It takes more fuel than there was, but not without end.
		if got := impl.Direct(n, 100*muchFuel); m.Kind == impl.VmBad || ended(got) != ended(impl.VmOutcome(m)) {
			t.Fatalf("%.900s\nby the machine: %.900s, not\n%.900s", impl.Show(n), ended(impl.VmOutcome(m)), ended(got))
		}
	}
	return o
}

func TestMachinesOfAnyPrograms(t *testing.T) {
	t.Parallel()
	var ends [3]int
	words := map[string]int{}
	for seed := range 2500 {
		d := doer{dice: dice{seed: uint64(seed)}, budget: 10 + seed%90}
		n, line := impl.Read(d.program())
		if line != 0 || len(impl.Show(n)) > impl.MaxSource {
			continue
		}
		o := wantMeaning(t, n, 6000)
		ends[o.Kind]++
		for _, s := range append(o.Out, o.Value.S) {
			words[s]++
		}
	}
	if ends[impl.EndDone] < 1000 || ends[impl.EndError] < 200 {
		t.Error("too few end:", ends)
	}
	for _, word := range strings.Fields("arith divide compare concat length index call name deep break nil") {
		if words[word] < 10 {
			t.Error("too few of", word, words[word])
		}
	}
	for seed := range 1500 {
		c := chooser{dice: dice{seed: uint64(seed)}, budget: 10 + seed%120}
		if n, line := impl.Read(c.block(12, false)); line == 0 && len(impl.Show(n)) <= impl.MaxSource {
			wantMeaning(t, n, 6000)
		}
	}
}

// A program that Direct does not end with much fuel is a machine that still runs.
func TestMachinesThatRunOn(t *testing.T) {
	endless := 0
	for _, src := range lasting {
		n, _ := impl.Read(src)
		if o := wantMeaning(t, n, 500000); o.Kind != impl.EndFuel {
			continue
		}
		endless++
		list, _ := impl.Compile(n)
		m := impl.VmStart(list)
		for part := 1; part <= 15; part++ {
			m = impl.VmRun(list, m, impl.MaxRun)
			o := impl.VmOutcome(m)
			if m.Kind != impl.VmRuns || m.Steps != part*impl.MaxRun || o.Kind != impl.EndFuel || o.Value != (impl.Value{}) {
				t.Fatalf("%s\nbehind %d steps: %.900s", src, m.Steps, vmWords(m))
			}
			// What it printed till then is a beginning of what the tree prints.
			if want := impl.Direct(n, 500000).Out; !slices.Equal(o.Out, want[:min(len(o.Out), len(want))]) {
				t.Fatal("printed otherwise", src)
			}
		}
	}
	if endless < 3 {
		t.Error("too few are without end:", endless)
	}
}

// Errors meet limits there, so that tree and machine must agree on what is made ahead of each.
func TestMachinesAtTheirLimits(t *testing.T) {
	for _, room := range strings.Fields("0 1 2 3 4 33 34 35") {
		fill := "local r = 0 local function f(a, b) if a then return f(a, b) end end local function g(a, b, c) return c end local i = 0 while i < 2995 - " + room + " do i = i + 1 local x = i end "
		for _, rest := range []string{
			"print(try(g)) local a print(1) local b print(2)",
			"print(try(function() g(1, 2, 3) end)) print(try(g)) local a local b print(a) local c local d print(5)",
			"print(try(function() f(1) end)) print(try(f)) local a print(a)",
			"f(1, 2)", "print(try(f)) f(1) return 1", "local function h(n) print(try(h)) local x = n end print(try(h)) return h()",
			"print(try(function() local function k() return k() + 1 end k() end)) local a return i",
			"print(try(try)) print(try(print)) print(try(error)) local a local b local c return try(g)",
		} {
			n, line := impl.Read(fill + rest)
			if line != 0 {
				t.Fatal("line", line, rest)
			}
			if o := wantMeaning(t, n, muchFuel); o.Kind == impl.EndFuel {
				t.Error("does not end:", fill+rest)
			}
		}
	}
}

// Promise 6 asks for programs within 200 slots; one beyond them is a machine that is bad at once.
func TestMachinesOfManySlots(t *testing.T) {
	for _, count := range []int{199, 200, 201} {
		n, _ := impl.Read(strings.Repeat("local a ", count) + "return a")
		list, ok := impl.Compile(n)
		if !ok || list[0].Slots != count {
			t.Fatal("slots", list[0].Slots)
		}
		if count <= 200 {
			wantMachine(t, n, "done nil")
			continue
		}
		wantSameVm(t, impl.VmStart(list), impl.Vm{Kind: impl.VmBad})
		wantBadFrom(t, list, impl.Vm{Frames: []impl.Frame{{Slots: make([]int, count)}}})
	}
}

// Nothing is kept from call to call, nor between two at the same time.
func TestMachineKeepsNothing(t *testing.T) {
	n, _ := impl.Read(everyForm)
	list, _ := impl.Compile(n)
	start := impl.VmStart(list)
	middle := impl.VmRun(list, start, 700)
	want, code := vmWords(endOf(list, middle, 9)), everything(list)
	var all sync.WaitGroup
	for worker := range 8 {
		all.Go(func() {
			for round := range 10 {
				d := doer{dice: dice{seed: uint64(worker*100 + round)}, budget: 30}
				other, _ := impl.Read(d.block(5))
				others, _ := impl.Compile(other)
				impl.VmRun(others, impl.VmStart(others), 500)
				impl.VmStep(nil, middle)
				if vmWords(endOf(list, middle, 9)) != want || vmWords(endOf(list, impl.VmStart(list), 9)) != want {
					t.Error("another answer")
				}
			}
		})
	}
	all.Wait()
	if everything(list) != code {
		t.Error("written into the code")
	}
}

// A machine's answers hang on nothing that is done to what was handed in, or to another answer, later on.
func TestMachinesAreNewMemory(t *testing.T) {
	for _, src := range append(slices.Clone(lasting), everyForm, "local s = \"abc\" print(s) error(s)", "print(\"abc\") return \"def\"", "local t = {} t.key = \"value\" t[\"k\"] = function() return t end return t.k") {
		n, _ := impl.Read(src)
		list, _ := impl.Compile(n)
		m := impl.VmStart(list)
		for _, steps := range []int{0, 1, 2, 3, 5, 10, 30, 100, 500} {
			run := func(list []impl.Proto, m impl.Vm) impl.Vm { return impl.VmRun(list, m, steps) }
			asked(t, list, m, impl.VmStep)
			asked(t, list, m, func(list []impl.Proto, m impl.Vm) impl.Outcome { return impl.VmOutcome(m) })
			m = asked(t, list, m, run)
		}
	}
}
