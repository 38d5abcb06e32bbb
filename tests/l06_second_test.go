package tests

import (
	"reflect"
	"runtime"
	"slices"
	"sort"
	"strconv"
	"strings"
	"testing"
	"unsafe"

	"loop.example/g00258/impl"
)

// elderVm does steps on a copy by plain indexes: what is not there is what the language itself refuses. A second opinion.
type elderVm struct {
	impl.Vm
	list []impl.Proto
}

type elderBad struct{}

func elderTurn(list []impl.Proto, m impl.Vm) impl.Vm {
	e := &elderVm{Vm: copyOf(m), list: list}
	if e.Kind != impl.VmRuns {
		return e.Vm
	}
	e.Steps++
	left := e.leaves(e.turn)
	if end, ok := left.(elderError); ok {
		left = e.leaves(func() { e.unwind(end.value) })
	}
	if left != nil {
		e.Kind, e.Frames = impl.VmBad, nil
	}
	return e.Vm
}

// elderTurns does many steps one by one.
func elderTurns(list []impl.Proto, m impl.Vm, n int) impl.Vm {
	for i := 0; i < n && m.Kind == impl.VmRuns; i++ {
		m = elderTurn(list, m)
	}
	return m
}

func (e *elderVm) leaves(do func()) (left any) {
	defer func() {
		left = recover()
		if _, ok := left.(runtime.Error); ok {
			left = elderBad{}
		}
	}()
	do()
	return nil
}

func (e *elderVm) fail(word string) { panic(elderError{textOf(word)}) }

func (e *elderVm) top() *impl.Frame { return &e.Frames[len(e.Frames)-1] }

func (e *elderVm) push(v impl.Value) { e.top().Stack = append(e.top().Stack, v) }

func (e *elderVm) take() impl.Value {
	f := e.top()
	v := f.Stack[len(f.Stack)-1]
	f.Stack = f.Stack[:len(f.Stack)-1]
	return v
}

func (e *elderVm) told(v impl.Value, refusal string) {
	if refusal != "" {
		e.fail(refusal)
	}
	e.push(v)
}

func (e *elderVm) unwind(v impl.Value) {
	for i := len(e.Frames) - 1; i >= 0; i-- {
		if e.Frames[i].Guard {
			e.Frames = e.Frames[:i]
			if v.Kind == impl.KNil {
				v = textOf("nil")
			}
			e.push(v)
			return
		}
	}
	e.Kind, e.Value, e.Frames = impl.VmError, v, nil
}

func (e *elderVm) cell(v impl.Value) int {
	h, at := impl.NewCell(e.Heap, v)
	if at < 0 {
		e.fail("cells")
	}
	e.Heap = h
	return at
}

func (e *elderVm) turn() {
	if !rightByBounds(e.list) {
		panic(elderBad{})
	}
	f := e.top()
	in := e.list[f.Proto].Code[f.Pc]
	f.Pc++
	cells := e.Heap.Cells
	switch in.Op {
	case impl.OpPush:
		e.push(in.V)
	case impl.OpLocal:
		e.push(cells[f.Slots[in.A]])
	case impl.OpUp:
		e.push(cells[f.Ups[in.A]])
	case impl.OpSetLocal:
		cells[f.Slots[in.A]] = e.take()
	case impl.OpSetUp:
		cells[f.Ups[in.A]] = e.take()
	case impl.OpNew:
		slot := &f.Slots[in.A]
		*slot = e.cell(e.take())
	case impl.OpIndex:
		k, t := e.take(), e.take()
		e.told(impl.GetAt(e.Heap, t, k))
	case impl.OpPut:
		v, k, t := e.take(), e.take(), e.take()
		h, refusal := impl.SetAt(e.Heap, t, k, v)
		if refusal != "" {
			e.fail(refusal)
		}
		e.Heap = h
	case impl.OpTable:
		h, t := impl.NewTable(e.Heap)
		if t.Kind != impl.KTable {
			e.fail("tables")
		}
		e.Heap = h
		e.push(t)
	case impl.OpFunc:
		e.function(in.A)
	case impl.OpCall:
		list := make([]impl.Value, in.A)
		for i := in.A - 1; i >= 0; i-- {
			list[i] = e.take()
		}
		if v, ok := e.call(e.take(), list, false); ok {
			e.push(v)
		}
	case impl.OpBin:
		b, a := e.take(), e.take()
		e.told(elderOperate(in.S, a, b))
	case impl.OpUn:
		e.told(impl.Unary(in.S, e.Heap, e.take()))
	default:
		e.turnAside(f, in)
	}
}

func (e *elderVm) turnAside(f *impl.Frame, in impl.Instr) {
	switch in.Op {
	case impl.OpJump:
		f.Pc = in.A
	case impl.OpFalse:
		if !impl.Truth(e.take()) {
			f.Pc = in.A
		}
	case impl.OpAnd, impl.OpOr:
		if impl.Truth(f.Stack[len(f.Stack)-1]) == (in.Op == impl.OpOr) {
			f.Pc = in.A
		} else {
			e.take()
		}
	case impl.OpPop:
		e.take()
	case impl.OpRaise:
		e.fail(in.S)
	case impl.OpReturn:
		v := e.take()
		e.Frames = e.Frames[:len(e.Frames)-1]
		switch {
		case len(e.Frames) == 0:
			e.Kind, e.Value = impl.VmDone, v
		case f.Guard:
			e.push(impl.Value{})
		default:
			e.push(v)
		}
	}
}

func (e *elderVm) function(number int) {
	c := impl.Closure{Proto: number}
	for _, up := range e.list[number].Ups {
		at := map[bool][]int{true: e.top().Slots, false: e.top().Ups}[up.Local][up.At]
		_ = e.Heap.Cells[at]
		c.Ups = append(c.Ups, at)
	}
	e.Funs = append(e.Funs, c)
	e.push(impl.Value{Kind: impl.KFunc, N: len(e.Funs) - 1})
}

// call tells a value where there is one at once.
func (e *elderVm) call(called impl.Value, list []impl.Value, guard bool) (impl.Value, bool) {
	first := append(slices.Clone(list), impl.Value{})[0]
	switch {
	case called.Kind == impl.KFunc:
		e.enter(e.Funs[called.N], list, guard)
		return impl.Value{}, false
	case called.Kind != impl.KHost || called.N < 0 || called.N > 2:
		e.fail("call")
	case called.N == 0:
		if len(e.Out) >= impl.MaxLines {
			e.fail("full")
		}
		e.Out = append(e.Out, impl.ShowValue(first))
	case called.N == 1:
		panic(elderError{first})
	default:
		return e.try(first)
	}
	return impl.Value{}, true
}

func (e *elderVm) try(called impl.Value) (impl.Value, bool) {
	later := false
	left := e.leaves(func() {
		_, atOnce := e.call(called, nil, true)
		later = !atOnce
	})
	if end, ok := left.(elderError); ok {
		if end.value.Kind == impl.KNil {
			return textOf("nil"), true
		}
		return end.value, true
	}
	if left != nil {
		panic(left)
	}
	return impl.Value{}, !later
}

func (e *elderVm) enter(c impl.Closure, list []impl.Value, guard bool) {
	p := e.list[c.Proto]
	if len(e.Frames)-1 >= impl.MaxCalls {
		e.fail("deep")
	}
	f := impl.Frame{Proto: c.Proto, Guard: guard, Ups: slices.Clone(c.Ups)}
	for i := range p.Slots {
		at := -1
		if i < p.Params {
			at = e.cell(append(slices.Clone(list), make([]impl.Value, 200)...)[i])
		}
		f.Slots = append(f.Slots, at)
	}
	e.Frames = append(e.Frames, f)
}

// copyOf copies all that hangs on a thing, bytes of texts too; lists have just the room that they need.
func copyOf[T any](thing T) T {
	return copiedWithRoom(reflect.ValueOf(&thing).Elem(), 0).Interface().(T)
}

// roomyCopyOf has what can be known again in spare room behind each list.
func roomyCopyOf[T any](thing T) T {
	return copiedWithRoom(reflect.ValueOf(&thing).Elem(), 2).Interface().(T)
}

func copiedWithRoom(v reflect.Value, room int) reflect.Value {
	out := reflect.New(v.Type()).Elem()
	switch v.Kind() {
	case reflect.Slice:
		list := reflect.MakeSlice(v.Type(), v.Len()+room, v.Len()+room)
		for i := range v.Len() {
			list.Index(i).Set(copiedWithRoom(v.Index(i), room))
		}
		for i := range room {
			mark(list.Index(v.Len() + i))
		}
		out.Set(list.Slice(0, v.Len()))
	case reflect.Struct:
		for i := range v.NumField() {
			out.Field(i).Set(copiedWithRoom(v.Field(i), room))
		}
	case reflect.String:
		out.SetString(strings.Clone(v.String()))
	default:
		out.Set(v)
	}
	return out
}

func mark(v reflect.Value) {
	switch v.Kind() {
	case reflect.Slice:
		v.Set(reflect.MakeSlice(v.Type(), 1, 1))
		mark(v.Index(0))
	case reflect.Struct:
		for i := range v.NumField() {
			mark(v.Field(i))
		}
	case reflect.String:
		v.SetString("behind")
	case reflect.Int:
		v.SetInt(7777)
	case reflect.Bool:
		v.SetBool(true)
	}
}

// everything tells a thing with all that is in the room behind its lists.
func everything(thing any) string {
	return string(toldAll(nil, reflect.ValueOf(thing), true))
}

// vmWords tells all that a machine is; lists of none look alike.
func vmWords(m impl.Vm) string {
	return string(toldAll(nil, reflect.ValueOf(m), false))
}

func toldAll(out []byte, v reflect.Value, room bool) []byte {
	switch v.Kind() {
	case reflect.Slice:
		if room && !v.IsNil() {
			v = v.Slice(0, v.Cap())
		}
		out = append(out, '[')
		for i := range v.Len() {
			out = toldAll(out, v.Index(i), room)
		}
		return append(out, ']')
	case reflect.Struct:
		out = append(out, '{')
		for i := range v.NumField() {
			out = toldAll(out, v.Field(i), room)
		}
		return append(out, '}')
	case reflect.String:
		out = strconv.AppendQuote(out, v.String())
	case reflect.Bool:
		out = strconv.AppendBool(out, v.Bool())
	default:
		out = strconv.AppendInt(out, v.Int(), 10)
	}
	return append(out, ' ')
}

// A span is a stretch of memory.
type span struct {
	first uintptr
	end   uintptr
}

// memoryOf gathers where the lists of a thing stand, with their spare room, and where the bytes of its texts do.
func memoryOf(v reflect.Value, lists *[]span, texts *[]span) {
	switch v.Kind() {
	case reflect.Slice:
		first := v.Pointer()
		size := uintptr(v.Cap()) * v.Type().Elem().Size()
		if size > 0 {
			*lists = append(*lists, span{first, first + size})
		}
		for i := range v.Len() {
			memoryOf(v.Index(i), lists, texts)
		}
	case reflect.Struct:
		for i := range v.NumField() {
			memoryOf(v.Field(i), lists, texts)
		}
	case reflect.String:
		if s := v.String(); s != "" {
			first := uintptr(unsafe.Pointer(unsafe.StringData(s)))
			*texts = append(*texts, span{first, first + uintptr(len(s))})
		}
	}
}

func overlap(list []span) bool {
	sort.Slice(list, func(i int, j int) bool { return list[i].first < list[j].first })
	for i := 1; i < len(list); i++ {
		if list[i].first < list[i-1].end {
			return true
		}
	}
	return false
}

// wantOwnMemory asks that no two lists of an answer share any memory, nor one or a text with what was handed in.
func wantOwnMemory(t *testing.T, answer any, given ...any) {
	t.Helper()
	var lists, texts []span
	memoryOf(reflect.ValueOf(answer), &lists, &texts)
	if overlap(lists) {
		t.Fatal("two lists of an answer share memory")
	}
	// Texts of an answer may share theirs with each other, so equal ones stand there once.
	kept := slices.Compact(slices.SortedFunc(slices.Values(texts), func(a span, b span) int {
		return int(a.first) - int(b.first) + int(a.end) - int(b.end)
	}))
	for _, thing := range given {
		var theirs, bytes []span
		memoryOf(reflect.ValueOf(thing), &theirs, &bytes)
		if anyShared(lists, theirs) {
			t.Fatal("an answer's lists share memory with an argument")
		}
		if anyShared(kept, bytes) {
			t.Fatal("an answer's texts share memory with an argument")
		}
	}
}

func anyShared(ours []span, theirs []span) bool {
	sort.Slice(theirs, func(i int, j int) bool { return theirs[i].first < theirs[j].first })
	for _, s := range ours {
		// The first of theirs that ends behind where s begins.
		at := sort.Search(len(theirs), func(i int) bool { return theirs[i].end > s.first })
		if at < len(theirs) && theirs[at].first < s.end {
			return true
		}
	}
	return false
}

// asked does something with copies of a list and a machine that have marked room, which must stay as they are; what is told is in memory of its own.
func asked[T any](t *testing.T, list []impl.Proto, m impl.Vm, ask func(list []impl.Proto, m impl.Vm) T) T {
	t.Helper()
	code, given := roomyCopyOf(list), roomyCopyOf(m)
	wantCode, want := everything(code), everything(given)
	answer := ask(code, given)
	if everything(code) != wantCode || everything(given) != want {
		t.Fatalf("written into an argument:\n%.3000s\n%.3000s", want, everything(given))
	}
	wantOwnMemory(t, answer, code, given)
	return answer
}

// stepOf is VmStep, of which all is asked that holds for any answer.
func stepOf(t *testing.T, list []impl.Proto, m impl.Vm) impl.Vm {
	t.Helper()
	after := asked(t, list, m, impl.VmStep)
	wantSameVm(t, asked(t, list, m, func(list []impl.Proto, m impl.Vm) impl.Vm { return impl.VmRun(list, m, 1) }), after)
	return after
}

func wantSameVm(t *testing.T, got impl.Vm, want impl.Vm) {
	t.Helper()
	if vmWords(got) != vmWords(want) {
		t.Fatalf("the machine\n%.3000s\nis not\n%.3000s", vmWords(got), vmWords(want))
	}
	if !impl.SameVm(got, want) || !impl.SameVm(want, got) {
		t.Fatalf("not the same to SameVm: %.3000s", vmWords(got))
	}
}

// endOf runs a machine until it has ended, or for so many times MaxRun steps.
func endOf(list []impl.Proto, m impl.Vm, times int) impl.Vm {
	for i := 0; i < times && m.Kind == impl.VmRuns; i++ {
		m = impl.VmRun(list, m, impl.MaxRun)
	}
	return m
}

// wantMachine asks for promise 6 of a program that ends so.
func wantMachine(t *testing.T, n impl.Node, want string) impl.Vm {
	t.Helper()
	list, ok := impl.Compile(n)
	if !ok || !impl.CodeOk(list) {
		t.Fatalf("no code: %.900s", impl.Show(n))
	}
	m := endOf(list, impl.VmStart(list), 1000)
	if m.Kind != impl.VmDone && m.Kind != impl.VmError || len(m.Frames) != 0 {
		t.Fatalf("%.900s\nends as %.900s", impl.Show(n), vmWords(m))
	}
	if got := ended(impl.VmOutcome(m)); got != want {
		t.Fatalf("%.900s\nby the machine: %.900s, not\n%.900s", impl.Show(n), got, want)
	}
	return m
}
