package tests

import (
	"math"
	"reflect"
	"slices"
	"strconv"
	"strings"
	"sync"
	"testing"

	"loop.example/g00258/impl"
)

// shadows has names that stand twice, within blocks within blocks and one behind the other.
const shadows = `local a = 1
local b = {}
b.k = a
if a then
local a = "in"
local c = a
while true do
local a = {}
a[1] = b
local b
break
end
c = nil
end
local c = 2
print(c)
local c = 3
return c
`

// params has parameters and locals of one name.
const params = `local function f(a, b)
local a = a
if b then
local b = a
a = b
end
return a
end
local a = f(5, 6)
local f = f
print(f(a))
return f
`

const rounds = `local i = 0
while i < 3 do
local x = i
i = i + 1
local y
end
return i
`

// within has functions within functions, calls within calls, and an error.
const within = `local n = 1
local function g(k)
local function h(v)
local w = v + n
return w
end
return h(k) + h(k + 1)
end
local z =
g(10)
n = z
print(try(function()
local e = n
error(e)
end))
return n
`

var lookPrograms = []string{shadows, params, rounds, within}

// wantThere asks what there is to see where a program comes to a line for the first time, or the second, and so on: of each frame what Depths tells, and its names.
func wantThere(t *testing.T, src string, line int, time int, want ...string) {
	t.Helper()
	o := outlookOf(compiled(t, src))
	m := o.cameToLine(t, line, time).Now
	wantLook(t, asked[any], o.list, m)
	var told []string
	for frame, depth := range impl.Depths(o.list, m) {
		told = append(told, depth+": "+strings.Join(impl.Locals(o.list, m, frame), ", "))
	}
	if !slices.Equal(told, want) {
		t.Fatalf("in line %d: %q, not %q", line, told, want)
	}
}

func TestNamesWithinBlocks(t *testing.T) {
	const b = `b={["k"] = 1}`
	wantThere(t, shadows, 2, 1, "0 2: a=1")
	wantThere(t, shadows, 3, 1, "0 3: a=1, b={}")
	wantThere(t, shadows, 4, 1, "0 4: a=1, "+b)
	wantThere(t, shadows, 5, 1, "0 5: a=1, "+b)
	wantThere(t, shadows, 6, 1, "0 6: "+b+`, a="in"`)
	wantThere(t, shadows, 7, 1, "0 7: "+b+`, a="in", c="in"`)
	wantThere(t, shadows, 8, 1, "0 8: "+b+`, a="in", c="in"`)
	wantThere(t, shadows, 9, 1, "0 9: "+b+`, c="in", a={}`)
	wantThere(t, shadows, 10, 1, "0 10: "+b+`, c="in", a={[1] = {["k"] = 1}}`)
	wantThere(t, shadows, 11, 1, `0 11: c="in", a={[1] = {["k"] = 1}}, b=nil`)
	wantThere(t, shadows, 13, 1, "0 13: "+b+`, a="in", c="in"`)
	wantThere(t, shadows, 15, 1, "0 15: a=1, "+b)
	wantThere(t, shadows, 16, 1, "0 16: a=1, "+b+", c=2")
	wantThere(t, shadows, 17, 1, "0 17: a=1, "+b+", c=2")
	wantThere(t, shadows, 18, 1, "0 18: a=1, "+b+", c=3")
}

func TestNamesOfParameters(t *testing.T) {
	wantThere(t, params, 2, 1, "1 2: a=5, b=6", "0 9: f=function")
	// The a that is told is made behind b.
	wantThere(t, params, 3, 1, "1 3: b=6, a=5", "0 9: f=function")
	wantThere(t, params, 4, 1, "1 4: b=6, a=5", "0 9: f=function")
	wantThere(t, params, 5, 1, "1 5: a=5, b=5", "0 9: f=function")
	wantThere(t, params, 7, 1, "1 7: b=6, a=5", "0 9: f=function")
	wantThere(t, params, 10, 1, "0 10: f=function, a=5")
	wantThere(t, params, 2, 2, "1 2: a=5, b=nil", "0 11: a=5, f=function")
	wantThere(t, params, 7, 2, "1 7: b=nil, a=5", "0 11: a=5, f=function")
	wantThere(t, params, 12, 1, "0 12: a=5, f=function")
}

func TestNamesOfLoops(t *testing.T) {
	wantThere(t, rounds, 2, 1, "0 2: i=0")
	wantThere(t, rounds, 3, 1, "0 3: i=0")
	wantThere(t, rounds, 4, 1, "0 4: i=0, x=0")
	wantThere(t, rounds, 5, 1, "0 5: i=1, x=0")
	// At its end and at its beginning the loop's own names are not there.
	wantThere(t, rounds, 2, 2, "0 2: i=1")
	wantThere(t, rounds, 2, 3, "0 2: i=1")
	wantThere(t, rounds, 3, 2, "0 3: i=1")
	wantThere(t, rounds, 4, 2, "0 4: i=1, x=1")
	wantThere(t, rounds, 5, 3, "0 5: i=3, x=2")
	wantThere(t, rounds, 7, 1, "0 7: i=3")
}

func TestNamesOfFunctionsWithin(t *testing.T) {
	wantThere(t, within, 7, 1, "1 7: k=10, h=function", "0 10: n=1, g=function")
	wantThere(t, within, 4, 1, "2 4: v=10", "1 7: k=10, h=function", "0 10: n=1, g=function")
	wantThere(t, within, 5, 1, "2 5: v=10, w=11", "1 7: k=10, h=function", "0 10: n=1, g=function")
	wantThere(t, within, 5, 2, "2 5: v=11, w=12", "1 7: k=10, h=function", "0 10: n=1, g=function")
	wantThere(t, within, 11, 1, "0 11: n=1, g=function, z=23")
	wantThere(t, within, 13, 1, "3 13: ", "0 12: n=23, g=function, z=23")
	wantThere(t, within, 14, 1, "3 14: e=23", "0 12: n=23, g=function, z=23")
	wantThere(t, within, 16, 1, "0 16: n=23, g=function, z=23")
	wantThere(t, failing, 2, 1, "1 2: a=5", "2 6: ", "0 9: g=function, f=function")
	wantThere(t, failing, 2, 2, "1 2: a=5", "2 6: ", "0 11: g=function, f=function")
	wantThere(t, calling, 3, 3, "1 3: a=2", "2 7: a=1, b=2", "0 12: g=function, f=function")
	// What stands ahead of where the frame waits, not what comes next there.
	wantThere(t, "local function f()\nreturn 1\nend\nlocal x =\nf()\nreturn x\n", 2, 1, "1 2: ", "0 5: f=function")
	wantThere(t, "local function f()\nreturn 1\nend\nlocal x = 2 +\n(\nf)(\n3)\nreturn x\n", 2, 1, "1 2: ", "0 6: f=function")
}

func TestLookOfManyFrames(t *testing.T) {
	for _, deepest := range []int{0, 1, 5, 6, 7, 8, 13, 14, 15, 28, 29} {
		src := "local function f(n)\nif n < " + strconv.Itoa(deepest) + " then\nf(n + 1)\nend\nprint(n)\nend\nf(0)"
		want := []string{"1 5: n=" + strconv.Itoa(deepest)}
		for n := deepest - 1; n >= 0; n-- {
			want = append(want, "1 3: n="+strconv.Itoa(n))
		}
		want = append(want, "0 7: f=function")
		wantThere(t, src, 5, 1, want...)
	}
}

// All that there is to see at each step of programs that run, that end in each way, and behind that.
func TestLookStepByStep(t *testing.T) {
	for _, src := range slices.Concat(lookPrograms, stopPrograms, []string{everyForm, "", "return 5", "local a error(a)", "local a y = a", "local a break"}) {
		list := compiled(t, src)
		m := impl.VmStart(list)
		for step := range 500 {
			by := looker(plainLook)
			if step%25 == 0 {
				by = asked[any]
			}
			wantLook(t, by, list, m)
			m = impl.VmStep(list, m)
		}
	}
	for _, list := range codeByHand() {
		for step := range 53 {
			wantLook(t, plainLook, list, impl.VmRun(list, impl.VmStart(list), step))
		}
	}
	for _, list := range wrongLists() {
		wantLook(t, asked[any], list, impl.VmStart(list))
		wantLook(t, asked[any], list, impl.Vm{Frames: []impl.Frame{{}, {Proto: 1, Pc: 1}}})
	}
}

func TestDepthsOfWhatIsNotThere(t *testing.T) {
	list := []impl.Proto{{Code: codeOfLines(4, 5, 6)}, {Code: codeOfLines(-2, 0, 9, math.MaxInt, math.MinInt)}, {}}
	for _, c := range []struct{ proto, pc, runs, waits int }{
		{0, 0, 4, 0}, {0, 1, 5, 4}, {0, 2, 6, 5}, {0, 3, 0, 6}, {0, 4, 0, 0}, {0, -1, 0, 0}, {0, -2, 0, 0}, {0, math.MaxInt, 0, 0}, {0, math.MinInt, 0, 0},
		{1, 0, -2, 0}, {1, 1, 0, -2}, {1, 2, 9, 0}, {1, 3, math.MaxInt, 9}, {1, 4, math.MinInt, math.MaxInt}, {1, 5, 0, math.MinInt}, {1, 6, 0, 0},
		{2, 0, 0, 0}, {2, 1, 0, 0}, {2, -1, 0, 0}, {3, 0, 0, 0}, {3, 1, 0, 0}, {-1, 0, 0, 0}, {-1, 1, 0, 0}, {math.MaxInt, 1, 0, 0}, {math.MinInt, 1, 0, 0},
	} {
		f, other := impl.Frame{Proto: c.proto, Pc: c.pc, Guard: c.pc == 1}, impl.Frame{Pc: 2}
		runs, waits := strconv.Itoa(c.proto)+" "+strconv.Itoa(c.runs), strconv.Itoa(c.proto)+" "+strconv.Itoa(c.waits)
		for _, kind := range []int{impl.VmRuns, impl.VmDone, impl.VmError, impl.VmBad, 4, -1, math.MinInt} {
			wantDepths(t, list, impl.Vm{Kind: kind, Frames: []impl.Frame{f}}, runs)
			wantDepths(t, list, impl.Vm{Kind: kind, Frames: []impl.Frame{f, f}}, runs, waits)
			wantDepths(t, list, impl.Vm{Kind: kind, Frames: []impl.Frame{other, f}}, runs, "0 5")
			wantDepths(t, list, impl.Vm{Kind: kind, Frames: []impl.Frame{f, other}}, "0 6", waits)
			wantDepths(t, list, impl.Vm{Kind: kind, Frames: []impl.Frame{other, f, other}}, "0 6", waits, "0 5")
		}
		for _, list := range [][]impl.Proto{nil, {}} {
			none := strconv.Itoa(c.proto) + " 0"
			wantDepths(t, list, impl.Vm{Frames: []impl.Frame{f, f}}, none, none)
		}
	}
	for _, m := range []impl.Vm{{}, {Frames: []impl.Frame{}}, {Kind: impl.VmDone, Value: textOf("v"), Steps: -3}, {Kind: impl.VmBad}} {
		wantDepths(t, list, m)
		wantDepths(t, nil, m)
	}
}

func wantDepths(t *testing.T, list []impl.Proto, m impl.Vm, want ...string) {
	t.Helper()
	wantTexts(t, "Depths", asked(t, list, m, depths), want)
	wantTexts(t, "Depths told by the second", elderDepths(list, m), want)
}

// However its goroutines run, Depths answers the same, be it asked by many at once.
func TestDepthsAgainAndAgain(t *testing.T) {
	list := []impl.Proto{{Code: codeOfLines(1, 2, 3, 4, 5, 6, 7, 8, 9)}, {Code: codeOfLines(-7, -8, -9)}}
	var all sync.WaitGroup
	for _, count := range []int{0, 1, 2, 3, 7, 8, 9, 15, 16, 17, 31, 100, 3000} {
		var m impl.Vm
		for i := range count {
			m.Frames = append(m.Frames, impl.Frame{Proto: i % 3, Pc: i % 11})
		}
		want := elderDepths(list, m)
		for range 4 {
			all.Go(func() {
				for range 50 {
					got := impl.Depths(list, m)
					if !slices.Equal(got, want) {
						t.Error("of", count, "frames:", got)
					}
					// Nobody writes there any more.
					clear(got)
				}
			})
		}
	}
	all.Wait()
}

// deepHeap has an empty table, nested ones, some that are in themselves, and a long chain behind those.
func deepHeap() impl.Heap {
	h := impl.Heap{Tables: [][]impl.Pair{
		nil,
		{pairOf(textOf("a"), intOf(1)), pairOf(boolOf(false), impl.Value{}), pairOf(intOf(-3), hostPrint)},
		{pairOf(tableOf(0), tableOf(1)), pairOf(tableOf(1), tableOf(0))},
		{pairOf(tableOf(3), intOf(7))},
		{pairOf(intOf(7), tableOf(4))},
		{pairOf(tableOf(5), tableOf(5)), pairOf(textOf("x"), textOf("\n"))},
		{pairOf(tableOf(-1), tableOf(99)), pairOf(impl.Value{}, impl.Value{Kind: 9}), pairOf(intOf(1), funcOf(0)), pairOf(intOf(1), intOf(2))},
	}}
	for n := range 8 {
		h.Tables = append(h.Tables, []impl.Pair{pairOf(intOf(n), tableOf(8+n))})
	}
	return h
}

func TestDeepOfTables(t *testing.T) {
	h := deepHeap()
	for _, most := range []int{0, -1, -5, math.MinInt} {
		for n := range h.Tables {
			wantDeep(t, h, tableOf(n), most, "table")
		}
	}
	for _, c := range []struct {
		table int
		mosts []int
		want  string
	}{
		{0, []int{1, 2, 5, 6, math.MaxInt}, "{}"},
		{1, []int{1, 2, 5, 6, 100}, `{["a"] = 1, [false] = nil, [-3] = function}`},
		{2, []int{1}, "{[table] = table, [table] = table}"},
		{2, []int{2, 3, 4, 5, 6}, `{[{}] = {["a"] = 1, [false] = nil, [-3] = function}, [{["a"] = 1, [false] = nil, [-3] = function}] = {}}`},
		{3, []int{1}, "{[table] = 7}"}, {3, []int{2}, "{[{[table] = 7}] = 7}"}, {3, []int{4}, "{[{[{[{[table] = 7}] = 7}] = 7}] = 7}"},
		{4, []int{1}, "{[7] = table}"}, {4, []int{2}, "{[7] = {[7] = table}}"}, {4, []int{5, 6, 7, 1000, math.MaxInt}, "{[7] = {[7] = {[7] = {[7] = {[7] = table}}}}}"},
		{5, []int{1}, `{[table] = table, ["x"] = "\n"}`},
		{5, []int{2}, `{[{[table] = table, ["x"] = "\n"}] = {[table] = table, ["x"] = "\n"}, ["x"] = "\n"}`},
		{6, []int{1, 2, 5, 6}, "{[table] = table, [nil] = , [1] = function, [1] = 2}"},
		{7, []int{3}, "{[0] = {[1] = {[2] = table}}}"}, {7, []int{4}, "{[0] = {[1] = {[2] = {[3] = table}}}}"}, {7, []int{5, 6, 9, math.MaxInt}, "{[0] = {[1] = {[2] = {[3] = {[4] = table}}}}}"},
		{13, []int{2, 5, 9}, "{[6] = {[7] = table}}"}, {14, []int{1, 2, 5, 9}, "{[7] = table}"},
	} {
		for _, most := range c.mosts {
			wantDeep(t, h, tableOf(c.table), most, c.want)
		}
	}
	for _, most := range []int{-1, 0, 1, 2, 5, 6, math.MaxInt} {
		for _, n := range []int{-1, len(h.Tables), len(h.Tables) + 1, math.MaxInt, math.MinInt} {
			wantDeep(t, h, tableOf(n), most, "table")
		}
		wantDeep(t, impl.Heap{}, tableOf(0), most, "table")
		wantDeep(t, impl.Heap{Cells: values(textOf("c"))}, tableOf(0), most, "table")
	}
	// A full table has all its pairs told, in their order.
	var pairs []string
	for n := range 200 {
		pairs = append(pairs, "["+strconv.Itoa(n+1)+`] = "v`+strconv.Itoa(n)+`"`)
	}
	wantDeep(t, impl.Heap{Tables: [][]impl.Pair{longTable(200)}}, tableOf(0), 1, "{"+strings.Join(pairs, ", ")+"}")
}

func TestDeepOfOtherValues(t *testing.T) {
	h := deepHeap()
	for _, most := range []int{math.MinInt, -1, 0, 1, 2, 3, 5, 6, math.MaxInt} {
		for v, want := range map[impl.Value]string{
			{}: "nil", boolOf(false): "false", boolOf(true): "true", intOf(0): "0", intOf(-12): "-12", intOf(math.MinInt): "-9223372036854775808",
			funcOf(0): "function", funcOf(99): "function", hostPrint: "function", hostTry: "function", {Kind: 7}: "", {Kind: -1, N: 1}: "", {Kind: math.MaxInt, S: "a"}: "", {Kind: math.MinInt}: "",
			textOf(""): `""`, textOf("nil"): `"nil"`, textOf("table"): `"table"`, textOf("a b"): `"a b"`,
			textOf("\""): `"\""`, textOf("\\"): `"\\"`, textOf("\n"): `"\n"`, textOf("\\n\"\n\\"): `"\\n\"\n\\"`, textOf("\t\x00\r\xff"): "\"\t\x00\r\xff\"",
		} {
			wantDeep(t, h, v, most, want)
		}
		for _, v := range anyValues() {
			wantDeep(t, h, v, most, elderDeep(h, v, most))
		}
	}
	long := textOf(strings.Repeat("\"\\\n", 2000))
	wantDeep(t, h, long, 1, impl.Quote(long.S))
}

// A text that is told is one that Lex reads as it, wherever it stands.
func TestDeepTellsTextsByQuote(t *testing.T) {
	for _, s := range []string{"", "a", "\"", "\\", "\n", "\\\"", "] = ", "}, {", "é\x80"} {
		h := impl.Heap{Tables: [][]impl.Pair{{pairOf(textOf(s), textOf(s+s))}}}
		wantDeep(t, h, tableOf(0), 1, "{["+impl.Quote(s)+"] = "+impl.Quote(s+s)+"}")
		list, line := impl.Lex(impl.Deep(h, textOf(s), 0))
		if line != 0 || len(list) != 1 || list[0].Text != s {
			t.Errorf("%q is read as %v", s, list)
		}
	}
}

func nameOf(text string, slot int, from int, to int) impl.Name {
	return impl.Name{Text: text, Slot: slot, From: from, To: to}
}

// wantNames asks for the names of a frame at this Pc, with these slots and cells: as the last one, as one that waits, as the first one. What VarOf tells of each name must be in accord with them.
func wantNames(t *testing.T, names []impl.Name, pc int, slots []int, cells []impl.Value, want ...string) {
	t.Helper()
	list := []impl.Proto{{Names: []impl.Name{nameOf("other", 0, 0, 9)}, Code: codeOfLines(1, 2)}, {Names: names, Code: codeOfLines(3, 4, 5)}}
	f, other := impl.Frame{Proto: 1, Pc: pc, Slots: slots, Stack: values(intOf(-1))}, impl.Frame{Slots: []int{0}}
	for _, m := range []impl.Vm{
		{Frames: []impl.Frame{f}}, {Frames: []impl.Frame{other, f}}, {Frames: []impl.Frame{f, other}}, {Frames: []impl.Frame{other, f, other, other}}, {Frames: []impl.Frame{f, f, f}},
	} {
		m.Heap.Cells = cells
		for _, kind := range []int{impl.VmRuns, impl.VmDone, impl.VmBad, -4} {
			m.Kind = kind
			wantLook(t, asked[any], list, m)
			for i, f := range slices.Backward(m.Frames) {
				if got := impl.Locals(list, m, len(m.Frames)-1-i); f.Proto == 1 && !slices.Equal(got, want) {
					t.Fatalf("Locals of %v at %d: %q, not %q", names, pc, got, want)
				}
			}
		}
	}
	m := impl.Vm{Frames: []impl.Frame{other, f}, Heap: impl.Heap{Cells: cells}}
	there := 0
	for _, name := range namesOf(list) {
		v, ok := impl.VarOf(list, m, name)
		if !ok && v != (impl.Value{}) || ok != slices.Contains(want, name+"="+impl.Deep(m.Heap, v, 2)) {
			t.Fatalf("VarOf %q: %v %v", name, v, ok)
		}
		if ok {
			there++
		}
	}
	if there != len(want) {
		t.Fatal("VarOf knows", there, "names, not", len(want))
	}
}

func TestWhereNamesAreThere(t *testing.T) {
	cells := values(intOf(10), intOf(11), textOf("x"))
	slots := []int{0, 1, 2}
	names := []impl.Name{nameOf("a", 0, 0, 3), nameOf("b", 1, 1, 2), nameOf("c", 2, 2, 3)}
	for pc, want := range map[int][]string{
		-1: nil, 0: {"a=10"}, 1: {"a=10", "b=11"}, 2: {"a=10", `c="x"`}, 3: nil, 4: nil, math.MinInt: nil, math.MaxInt: nil,
	} {
		wantNames(t, names, pc, slots, cells, want...)
	}
	// Where a frame is counts by numbers alone, be it within its code or not.
	wide := []impl.Name{nameOf("a", 0, math.MinInt, math.MaxInt), nameOf("b", 1, -5, 0), nameOf("c", 2, 7, 9)}
	for pc, want := range map[int][]string{
		math.MinInt: {"a=10"}, -6: {"a=10"}, -5: {"a=10", "b=11"}, -1: {"a=10", "b=11"}, 0: {"a=10"}, 6: {"a=10"}, 7: {"a=10", `c="x"`}, 8: {"a=10", `c="x"`}, 9: {"a=10"}, math.MaxInt - 1: {"a=10"}, math.MaxInt: nil,
	} {
		wantNames(t, wide, pc, slots, cells, want...)
	}
	// A stretch that is empty, or ends ahead of its beginning.
	for pc := range 5 {
		wantNames(t, []impl.Name{nameOf("a", 0, 2, 2), nameOf("b", 1, 3, 1)}, pc, slots, cells)
	}
	wantNames(t, nil, 0, slots, cells)
	// Two names may have one slot, and two slots one cell.
	wantNames(t, []impl.Name{nameOf("a", 1, 0, 3), nameOf("b", 1, 0, 3), nameOf("c", 0, 0, 3)}, 1, []int{2, 2}, cells, `a="x"`, `b="x"`, `c="x"`)
	wantNames(t, []impl.Name{nameOf("", 0, 0, 3), nameOf("a=b", 1, 0, 3), nameOf("a\n", 2, 0, 3)}, 1, slots, cells, "=10", "a=b=11", "a\n=\"x\"")
	wantNames(t, []impl.Name{nameOf("a", 0, 0, 3), nameOf("b", 1, 0, 3)}, 1, []int{1, 0}, values(impl.Value{}, impl.Value{Kind: 9}), "a=", "b=nil")
}

func TestNamesThatStandTwice(t *testing.T) {
	cells := values(intOf(10), intOf(11), intOf(12), intOf(13))
	slots := []int{0, 1, 2, 3}
	a, b := nameOf("a", 0, 0, 9), nameOf("b", 1, 0, 9)
	wantNames(t, []impl.Name{a, b, nameOf("a", 2, 1, 3)}, 0, slots, cells, "a=10", "b=11")
	wantNames(t, []impl.Name{a, b, nameOf("a", 2, 1, 3)}, 1, slots, cells, "b=11", "a=12")
	wantNames(t, []impl.Name{a, b, nameOf("a", 2, 1, 3)}, 2, slots, cells, "b=11", "a=12")
	wantNames(t, []impl.Name{a, b, nameOf("a", 2, 1, 3)}, 3, slots, cells, "a=10", "b=11")
	// Those that are not there at this place hide nothing, wherever they stand.
	wantNames(t, []impl.Name{nameOf("a", 2, 1, 3), a, b, nameOf("b", 3, 4, 9)}, 1, slots, cells, "a=10", "b=11")
	wantNames(t, []impl.Name{nameOf("a", 2, 1, 3), nameOf("b", 3, 4, 9)}, 5, slots, cells, "b=13")
	wantNames(t, []impl.Name{nameOf("a", 2, 1, 3), nameOf("a", 3, 3, 5)}, 2, slots, cells, "a=12")
	wantNames(t, []impl.Name{nameOf("a", 2, 1, 3), nameOf("a", 3, 3, 5)}, 3, slots, cells, "a=13")
	wantNames(t, []impl.Name{a, a, a}, 3, slots, cells, "a=10")
	wantNames(t, []impl.Name{a, nameOf("a", 1, 0, 9), b, nameOf("a", 2, 0, 9), nameOf("b", 3, 0, 9), nameOf("A", 0, 0, 9)}, 3, slots, cells, "a=12", "b=13", "A=10")
	wantNames(t, []impl.Name{nameOf("", 0, 0, 9), b, nameOf("", 2, 0, 9)}, 3, slots, cells, "b=11", "=12")
}

func TestNamesWithoutACell(t *testing.T) {
	t.Parallel()
	cells := values(intOf(10), intOf(11), intOf(12))
	a, b, c := nameOf("a", 0, 0, 9), nameOf("b", 1, 0, 9), nameOf("c", 2, 0, 9)
	again := nameOf("a", 2, 0, 9)
	for _, none := range []int{-1, -2, 3, 4, math.MaxInt, math.MinInt} {
		wantNames(t, []impl.Name{a, b, c}, 1, []int{none, 1, 2}, cells, "b=11", "c=12")
		wantNames(t, []impl.Name{a, b, c}, 1, []int{0, none, 2}, cells, "a=10", "c=12")
		wantNames(t, []impl.Name{a, b, c}, 1, []int{0, 1, none}, cells, "a=10", "b=11")
		wantNames(t, []impl.Name{a, b, c}, 1, []int{none, none, none}, cells)
		// A name that stands again is told by its last one alone, also where that has no cell.
		wantNames(t, []impl.Name{a, b, again}, 1, []int{0, 1, none}, cells, "b=11")
		wantNames(t, []impl.Name{a, b, again}, 1, []int{none, 1, 2}, cells, "b=11", "a=12")
		wantNames(t, []impl.Name{a, again}, 1, []int{0, 1, none}, cells)
		// The same for a slot that is none.
		wantNames(t, []impl.Name{nameOf("a", none, 0, 9), b}, 1, []int{0, 1, 2}, cells, "b=11")
		wantNames(t, []impl.Name{a, nameOf("b", none, 0, 9), c}, 1, []int{0, 1, 2}, cells, "a=10", "c=12")
		wantNames(t, []impl.Name{a, b, nameOf("a", none, 0, 9)}, 1, []int{0, 1, 2}, cells, "b=11")
		wantNames(t, []impl.Name{nameOf("a", none, 0, 9), b, again}, 1, []int{0, 1, 2}, cells, "b=11", "a=12")
	}
	wantNames(t, []impl.Name{a, b}, 1, nil, cells)
	wantNames(t, []impl.Name{a, b}, 1, []int{0}, cells, "a=10")
	wantNames(t, []impl.Name{a, b}, 1, []int{0, 1}, nil)
	wantNames(t, []impl.Name{a, b}, 1, []int{0, 1}, cells[:1], "a=10")
	// Slots, not ups, and cells, not what the Stack has.
	list := []impl.Proto{{Names: []impl.Name{a}}}
	m := impl.Vm{Frames: []impl.Frame{{Ups: []int{0}, Stack: values(intOf(1))}}, Heap: impl.Heap{Cells: cells}}
	wantLook(t, asked[any], list, m)
	if _, ok := impl.VarOf(list, m, "a"); ok || len(impl.Locals(list, m, 0)) > 0 {
		t.Error("an up is no slot")
	}
}

func TestNamesOfNoProto(t *testing.T) {
	list := []impl.Proto{{Names: []impl.Name{nameOf("a", 0, 0, 9)}}}
	for _, number := range []int{-1, 1, 2, math.MaxInt, math.MinInt} {
		m := impl.Vm{Frames: []impl.Frame{{Slots: []int{0}}, {Proto: number, Slots: []int{0}}}, Heap: impl.Heap{Cells: values(intOf(1))}}
		wantLook(t, asked[any], list, m)
		if got := impl.Locals(list, m, 1); !slices.Equal(got, []string{"a=1"}) || len(impl.Locals(list, m, 0)) > 0 {
			t.Error("Locals", got)
		}
		if v, ok := impl.VarOf(list, m, "a"); ok || v != (impl.Value{}) {
			t.Error("a name of a frame that waits")
		}
		wantLook(t, asked[any], nil, m)
	}
}

// Tables are told two levels down, with those within as table; VarOf tells a value as it is.
func TestNamesOfTables(t *testing.T) {
	h := deepHeap()
	list := []impl.Proto{{Names: []impl.Name{nameOf("a", 0, 0, 1)}}}
	for n, want := range map[int]string{0: "{}", 3: "{[{[table] = 7}] = 7}", 4: "{[7] = {[7] = table}}", 7: "{[0] = {[1] = table}}", -1: "table", 99: "table"} {
		h.Cells = values(tableOf(n))
		m := impl.Vm{Frames: []impl.Frame{{Slots: []int{0}}}, Heap: h}
		wantLook(t, asked[any], list, m)
		if got := impl.Locals(list, m, 0); !slices.Equal(got, []string{"a=" + want}) {
			t.Error("Locals", got)
		}
	}
	for _, v := range anyValues() {
		h.Cells = values(v)
		m := impl.Vm{Frames: []impl.Frame{{Slots: []int{0}}}, Heap: h}
		wantLook(t, asked[any], list, m)
		if got, ok := impl.VarOf(list, m, "a"); got != v || !ok {
			t.Error("VarOf", got)
		}
	}
}

// wantChanges asks for Changed at each step of a program, from 0 on: numbers, or so many alike as in 5*3.
func wantChanges(t *testing.T, list []impl.Proto, name string, want string) {
	t.Helper()
	var steps []int
	for _, word := range strings.Fields(want) {
		step, times, many := strings.Cut(word, "*")
		count := 1
		if many {
			count, _ = strconv.Atoi(times)
		}
		at, _ := strconv.Atoi(step)
		steps = append(steps, slices.Repeat([]int{at}, count)...)
	}
	w := watchOf(list)
	if end := w.end(len(steps)); end != len(steps)-1 {
		t.Fatal("it ends at", end, "not at", len(steps)-1)
	}
	last := wentTo(mustStart(t, list, 4), len(steps))
	for now, step := range steps {
		for _, trail := range []impl.Trail{w.trail(7, now, 0), impl.TrailTo(mustStart(t, list, 1), now), impl.TrailTo(last, now)} {
			if got := changedOf(t, trail, name); got != step || w.wantChanged(t, trail, name) != step {
				t.Fatalf("Changed of %q at %d is %d, not %d", name, now, got, step)
			}
		}
	}
}

func TestChanged(t *testing.T) {
	sets := compiled(t, "local a = 1\nlocal b = 2\na = b\nreturn a")
	wantChanges(t, sets, "a", "-1*2 1*4 5*2 7")
	wantChanges(t, sets, "b", "-1*4 3*4 7")
	wantChanges(t, sets, "c", "-1*9")
	wantChanges(t, sets, "", "-1*9")
	// Without a return names go ahead of the end.
	wantChanges(t, compiled(t, "local a = 1 print(a)"), "a", "-1*2 1*4 5*3")
	wantChanges(t, compiled(t, "local a = 1"), "a", "-1*5")
	wantChanges(t, compiled(t, "local a = 1 a = 1 a = nil a = 2 return"), "a", "-1*2 1*4 5*2 7*2 9")
	wantChanges(t, compiled(t, ""), "a", "-1*3")
	// A cell of nil is another thing than no cell.
	wantChanges(t, compiled(t, "local a local b return"), "a", "-1*2 1*4 5")
	wantChanges(t, compiled(t, "local a local b return"), "b", "-1*4 3*2 5")
	// Names that a loop makes again, and one around it.
	loop := compiled(t, "local i = 0\nwhile i < 2 do\nlocal x = i\ni = i + 1\nend\nreturn i")
	wantChanges(t, loop, "x", "-1*8 7*4 11*7 18*4 22*8")
	wantChanges(t, loop, "i", "-1*2 1*10 11*11 22*7 29")
	// A name that is hidden, and comes to light again.
	wantChanges(t, compiled(t, "local a = 1 if a then local a = 2 local a = 2 print(a) end return a"), "a", "-1*2 1*4 5*6 11*2 13")
	wantChanges(t, compiled(t, "local a = 1 if a then local a = 2 end return a"), "a", "-1*2 1*6 7")
	wantChanges(t, compiled(t, "if 1 then local a = 2 print(a) end local a = 2 return a"), "a", "-1*4 3*4 7*2 9*2 11")
	// What a table has is not what the name has.
	wantChanges(t, compiled(t, "local t = {} t.x = 1 t = t return t"), "t", "-1*2 1*8 9")
}

func TestChangedOfTwoFunctions(t *testing.T) {
	calls := compiled(t, "local function f(x)\nreturn x\nend\nlocal x = 5\nf(x)\nf(6)\nreturn x")
	// Where the function's x is as the other one nothing is changed.
	wantChanges(t, calls, "x", "-1*6 5*9 14*2 16*3 19")
	wantChanges(t, calls, "f", "-1*2 1*2 3*5 8*2 10*4 14*2 16*3 19")
	// By the function that is called, by an error that goes out of one, and by one that ends all.
	up := compiled(t, "local x = 1 local function f() x = 2 end f() return x")
	wantChanges(t, up, "x", "-1*2 1*6 7*4 11*3 14")
	wantChanges(t, compiled(t, "local x = 1 try(function(x) error(x) end) return x"), "x", "-1*2 1*3 4*3 7*3 10")
	wantChanges(t, compiled(t, "local x = 1 y = x"), "x", "-1*2 1*2 3")
	wantChanges(t, compiled(t, "local x = 1 error(x)"), "x", "-1*2 1*3 4")
}

// Code that no program gives: ends that are bad, values of any make, names from the first instruction on.
func TestChangedOfCodeByHand(t *testing.T) {
	push := func(v impl.Value) impl.Instr { return impl.Instr{Op: impl.OpPush, V: v} }
	made, set := impl.Instr{Op: impl.OpNew}, impl.Instr{Op: impl.OpSetLocal}
	names := []impl.Name{nameOf("a", 0, 0, 99), nameOf("none", 0, 3, 3)}
	bad := []impl.Proto{{Slots: 1, Names: names, Code: []impl.Instr{push(intOf(1)), made, {Op: impl.OpJump, A: 3}, {Op: impl.OpPop}}}}
	wantChanges(t, bad, "a", "-1*2 1*2 3")
	wantChanges(t, bad, "none", "-1*5")
	// A Kind, a number or a text alone makes another value.
	var code []impl.Instr
	for i, v := range values(intOf(1), textOf("1"), textOf(""), boolOf(false), impl.Value{}, tableOf(0), funcOf(0), impl.Value{Kind: impl.KFunc, S: "x"}, impl.Value{Kind: 9}, impl.Value{Kind: 9}, intOf(1)) {
		code = append(code, push(v), []impl.Instr{made, set}[min(i, 1)])
	}
	odd := []impl.Proto{{Slots: 1, Names: names, Code: append(code, impl.Instr{Op: impl.OpRaise})}}
	wantChanges(t, odd, "a", "-1*2 1*2 3*2 5*2 7*2 9*2 11*2 13*2 15*2 17*4 21 22")
	// A new cell of the same value is no change; a hidden name's is none, either.
	twice := []impl.Proto{{Slots: 2, Names: []impl.Name{nameOf("a", 0, 2, 9), nameOf("a", 1, 4, 9)}, Code: []impl.Instr{push(intOf(1)), made, push(intOf(1)), {Op: impl.OpNew, A: 1}, push(intOf(2)), set, push(intOf(1)), {Op: impl.OpSetLocal, A: 1}, {Op: impl.OpRaise}}}}
	wantChanges(t, twice, "a", "-1*2 1*7 8")
	// The last one of two names has no cell yet, so there is none to be seen.
	lacking := []impl.Proto{{Slots: 2, Names: []impl.Name{nameOf("a", 0, 0, 9), nameOf("a", 1, 3, 9)}, Code: []impl.Instr{push(intOf(1)), made, {Op: impl.OpJump, A: 3}, push(intOf(1)), {Op: impl.OpNew, A: 1}, {Op: impl.OpJump, A: 6}, {Op: impl.OpPop}}}}
	wantChanges(t, lacking, "a", "-1*2 1 2*2 4*2 6")
}

// No first step makes a cell, so that what is told is never step 0; the first one that it can be is 1.
func TestChangedAtTheFirstSteps(t *testing.T) {
	for op := range 20 {
		list := []impl.Proto{{Slots: 1, Names: []impl.Name{nameOf("a", 0, 0, 9), nameOf("b", 0, 1, 9), nameOf("c", 0, 0, 1)}, Code: []impl.Instr{{Op: op}, {Op: impl.OpNew}, {Op: impl.OpPush}}}, {}}
		if !impl.CodeOk(list) {
			list[0].Code[0].A = 1
		}
		if op == impl.OpUp || op == impl.OpSetUp {
			continue
		}
		w := watchOf(list)
		for now := range 3 {
			trail := wentTo(mustStart(t, list, 1), now)
			for _, name := range []string{"a", "b", "c"} {
				got := w.wantChanged(t, trail, name)
				if wants := now == 2 && trail.Now.Kind == impl.VmRuns && name != "c" && (op == impl.OpPush || op == impl.OpTable || op == impl.OpFunc); got != map[bool]int{true: 1, false: -1}[wants] {
					t.Error("Op", op, "at", now, name, got)
				}
			}
		}
	}
}

func TestChangedAtMaxTrail(t *testing.T) {
	t.Parallel()
	// A round takes seven steps, and i is set at step 9 for the first time.
	counts := watchOf(compiled(t, "local i = 0 local k = 5 while true do i = i + 1 end"))
	for _, every := range []int{1, 50, 1000} {
		trail := wentTo(mustStart(t, counts.list, every), impl.MaxTrail)
		if got := counts.wantChanged(t, trail, "k"); trail.Now.Steps != 9000 || got != 3 {
			t.Error("Changed of k is", got)
		}
		if got := counts.wantChanged(t, trail, "i"); (got-9)%7 != 0 || got < 9000-7 {
			t.Error("Changed of i is", got)
		}
		if got := counts.wantChanged(t, trail, "none"); got != -1 {
			t.Error("Changed of none is", got)
		}
		back := impl.TrailBack(trail, 1234)
		if got := counts.wantChanged(t, back, "i"); got >= back.Now.Steps || got < back.Now.Steps-7 {
			t.Error("Changed of i is", got)
		}
	}
	for _, marks := range [][]int{{0}, {0, 9000}, {0, 4, 8999}} {
		counts.wantChanged(t, counts.trail(1000, 9000, marks...), "i")
		if got := counts.wantChanged(t, counts.trail(1000, 9000, marks...), "k"); got != 3 {
			t.Error("Changed of k is", got)
		}
	}
	// A name that went at just the last step of a trail, one ahead of it, and one behind.
	for end, want := range map[int]int{8999: 8998, 9000: 8999, 9001: 1} {
		list := endingAt(impl.VmError, end-2)
		for i := range list[0].Code {
			list[0].Code[i].A += 2
		}
		list[0].Code = append([]impl.Instr{{Op: impl.OpPush}, {Op: impl.OpNew}}, list[0].Code...)
		list[0].Names = []impl.Name{nameOf("a", 0, 2, 9999)}
		trail := wentTo(mustStart(t, list, 1000), 9000)
		if got := watchOf(list).wantChanged(t, trail, "a"); got != want {
			t.Error("an end at", end, "is at", trail.Now.Steps, "and was changed at", got)
		}
	}
}

// One thing of a trail after the other is turned: what is answered then hangs on whether it is right still.
func TestChangedOfTrailsThatAreSpoilt(t *testing.T) {
	t.Parallel()
	right, wrong := 0, 0
	for _, c := range append(slices.Clone(trailsToSpoil), trailToSpoil{"local i = 0 while true do i = i + 1 local x = i end", 50, []int{0, 4, 50, 300}}) {
		list := compiled(t, c.src)
		trail := roadOf(list).trail(c.every, c.steps[3], c.steps[:3]...)
		if !impl.TrailOk(trail) {
			t.Fatal("not right", c.src)
		}
		names := namesOf(list)
		turnEach(reflect.ValueOf(&trail).Elem(), "trail", func(what string) {
			if !elderTrailOk(trail) {
				wrong++
				for _, name := range names {
					if got := impl.Changed(trail, name); got != -1 {
						t.Fatal("Changed of", name, "is", got, "for", what)
					}
				}
				if wrong%9 == 0 {
					wantUnchanged(t, trail)
				}
				return
			}
			right++
			w := watchOf(trail.Code)
			for _, name := range namesOf(trail.Code) {
				w.wantChanged(t, trail, name)
				changedOf(t, trail, name)
			}
		})
	}
	if right < 50 || wrong < 500 {
		t.Error("too few are right or wrong:", right, wrong)
	}
}

func wantReport(t *testing.T, trail impl.Trail, want string) {
	t.Helper()
	if got := trailAsked(t, trail, impl.Report); got != want {
		t.Fatalf("Report: %q, not %q", got, want)
	}
}

func TestReport(t *testing.T) {
	o := outlookOf(compiled(t, calling))
	for step, line := range map[int]int{0: 1, 1: 1, 4: 5, 8: 12, 11: 6, 14: 2} {
		wantReport(t, o.cameTo(t, 5, step), "step "+strconv.Itoa(step)+" line "+strconv.Itoa(line)+" runs")
	}
	for kind, word := range map[int]string{impl.VmDone: "done", impl.VmError: "error", impl.VmBad: "bad"} {
		o := outlookOf(endingAt(kind, 60))
		wantReport(t, o.cameTo(t, 5, 60), "step 60 line 0 "+word)
		wantReport(t, o.cameTo(t, 5, 40), "step 40 line 40 runs")
	}
	wantReport(t, outlookOf(compiled(t, endless)).cameTo(t, 1000, 9000), "step 9000 line 1 runs")
	wantReport(t, mustStart(t, []impl.Proto{{}}, 1), "step 0 line 0 runs")
	wantReport(t, mustStart(t, []impl.Proto{{Code: codeOfLines(-4)}}, 1), "step 0 line -4 runs")
	wantReport(t, impl.Trail{}, "step 0 line 0 runs")
}

// It is told of any trail, be it right or not.
func TestReportOfTrailsByHand(t *testing.T) {
	code := []impl.Proto{{Code: codeOfLines(5, 0, -6, math.MinInt)}, {Slots: -1, Code: codeOfLines(math.MaxInt)}}
	words := []string{"runs", "done", "error", "bad"}
	for _, steps := range []int{0, 1, 42, 9001, -1, -77, math.MaxInt, math.MinInt} {
		for _, c := range []struct{ proto, pc, line int }{{0, 0, 5}, {0, 1, 0}, {0, 2, -6}, {0, 3, math.MinInt}, {1, 0, math.MaxInt}, {0, 4, 0}, {0, -1, 0}, {2, 0, 0}, {-1, 0, 0}} {
			trail := impl.Trail{Code: code, Now: impl.Vm{Steps: steps, Frames: []impl.Frame{{}, {Proto: c.proto, Pc: c.pc}}}}
			wantReport(t, trail, "step "+strconv.Itoa(steps)+" line "+strconv.Itoa(c.line)+" runs")
			for _, kind := range []int{1, 2, 3} {
				trail.Now.Kind = kind
				wantReport(t, trail, "step "+strconv.Itoa(steps)+" line 0 "+words[kind])
			}
			// How a machine of no Kind is no word tells, so that none stands behind the blank.
			for _, kind := range []int{4, -1, math.MaxInt, math.MinInt} {
				trail.Now.Kind = kind
				wantReport(t, trail, "step "+strconv.Itoa(steps)+" line 0 ")
			}
		}
	}
}
