package tests

import (
	"math"
	"reflect"
	"slices"
	"strconv"
	"strings"
	"testing"

	"loop.example/g00258/impl"
)

// calling has calls within a call, whose lines are 1 to 7 and 12.
const calling = `local function g(a)
a = a + 1
return a
end
local function f(a)
local b = g(a)
return g(b) + g(1)
end



local x = f(1)
`

// failing has an error that goes out of two calls, to be caught by a try.
const failing = `local function g(a)
error(a)
return a
end
local function f()
g(5)
return 1
end
print(try(f))
print(2)
f()
`

const recursing = `local function f(n)
if n > 0 then
f(n - 1)
end
return n
end
f(3)
print(1)
`

// counting goes round within one line, and over many.
const counting = `local i = 0
while i < 5 do
i = i + 1
local j = 0 while j < i do j = j + 1 end
end
local k while true do i = i + 1 end`

const callsWithoutEnd = "local function f()\nwhile true do\nend\nend\nf()\n"

var stopPrograms = []string{calling, failing, recursing, counting, callsWithoutEnd}

func TestConstantsOfStops(t *testing.T) {
	if impl.StopHit != 0 || impl.StopEnd != 1 || impl.StopMost != 2 {
		t.Error("constants", impl.StopHit, impl.StopEnd, impl.StopMost)
	}
}

func wantAtLine(t *testing.T, list []impl.Proto, m impl.Vm, want int) {
	t.Helper()
	if got := asked(t, list, m, impl.AtLine); got != want {
		t.Fatalf("AtLine of %.900s: %d, not %d", vmWords(m), got, want)
	}
}

// wantSeen asks for the line that a program's machine is at, step by step; a point stands for none.
func wantSeen(t *testing.T, src string, want string) {
	t.Helper()
	list := compiled(t, src)
	m := impl.VmStart(list)
	for step, word := range strings.Fields(want) {
		line, _ := strconv.Atoi(word)
		if m.Steps != step {
			t.Fatalf("it has ended behind %d steps: %s", m.Steps, src)
		}
		wantAtLine(t, list, m, line)
		m = impl.VmStep(list, m)
	}
}

func TestAtLineStepByStep(t *testing.T) {
	wantSeen(t, "", ". .")
	wantSeen(t, "return 5", "1 . .")
	wantSeen(t, "\n\nreturn 5", "3 . .")
	wantSeen(t, "local a = 1\nlocal b = 2\n\nlocal c\n", "1 . 2 . 4 . 1 . .")
	wantSeen(t, "local a = 1 local b = 2\nlocal c local d", "1 . . . 2 . . . 1 . .")
	// One expression over many lines, and back to its first one.
	wantSeen(t, "local a =\n1 +\n2 *\n3\n", "2 3 4 3 2 1 . . .")
	// A loop that begins its line is come to each time round, one in the midst of it is not; one of many lines is at its end and at its beginning.
	wantSeen(t, "while true do end", "1 . . 1 . . 1 . . 1")
	wantSeen(t, "local i\nwhile true do end", "1 . 2 . . 2 . . 2 .")
	wantSeen(t, "local i while true do end", "1 . . . . . . . . .")
	wantSeen(t, "local i = 0\nwhile i < 2 do\ni = i + 1\nend\n", "1 . 2 . . . 3 . . . 2 2 . . . 3 . . . 2 2 . . . 1 . .")
	// A call comes to the first instruction of a proto; what is left of the line of the call is none.
	wantSeen(t, "local function f(a)\nlocal b = a + 1\nreturn b\nend\nlocal x = f(1)\nx = f(x)\nprint(x)\n", "1 . . . 5 . . 2 . . . 3 . . 6 . . 2 . . . 3 . . 7 . . . 1 . .")
	wantSeen(t, "local function f(a) return a end print(f(1)) return f(2)", "1 . . . . . . . 1 . . . . . . 1 . . .")
	wantSeen(t, "local function f()\nreturn 1 end local x = f() f()\nreturn x", "1 . . . 2 . 2 . . . . 2 . . 3 .")
	// An error goes behind the call of try, in the midst of its line; those beyond all tries end the machine.
	wantSeen(t, "local function f()\nerror(1)\nend\nprint(try(f))\nf()\n", "1 . . . 4 . . . 2 . . . . 5 . 2 . . .")
	wantSeen(t, "local a\ny = a\nreturn", "1 . 2 . .")
	wantSeen(t, "local a\nbreak\nreturn", "1 . 2 .")
}

func codeOfLines(lines ...int) []impl.Instr {
	var code []impl.Instr
	for _, line := range lines {
		code = append(code, impl.Instr{Line: line})
	}
	return code
}

func TestAtLineOfOneInstruction(t *testing.T) {
	list := []impl.Proto{{Code: codeOfLines(3, 3, 4, 4, 4, 3, 9)}, {Code: codeOfLines(3, 4)}, {}, {Code: codeOfLines(7)}, {Code: codeOfLines(0, 0, 1, 0, -2, -2, math.MaxInt, math.MinInt)}}
	for number, lines := range [][]int{{3, 0, 4, 0, 0, 3, 9}, {3, 4}, {}, {7}, {0, 0, 1, 0, -2, 0, math.MaxInt, math.MinInt}} {
		for pc, want := range append(lines, 0, 0) {
			wantAtLine(t, list, impl.Vm{Frames: []impl.Frame{{Proto: number, Pc: pc}}}, want)
			// The last frame counts, whatever it has beside, and whatever the machine has.
			wantAtLine(t, list, impl.Vm{Frames: []impl.Frame{{Proto: 3}, {Proto: -1}, {Proto: number, Pc: pc, Guard: true, Stack: values(intOf(1)), Slots: []int{-1}}}, Steps: -5, Value: textOf("v")}, want)
			for _, kind := range []int{impl.VmDone, impl.VmError, impl.VmBad, 4, -1, math.MaxInt, math.MinInt} {
				wantAtLine(t, list, impl.Vm{Kind: kind, Frames: []impl.Frame{{Proto: number, Pc: pc}}}, 0)
			}
		}
		for _, pc := range []int{-1, math.MinInt, math.MaxInt, 8, 100} {
			wantAtLine(t, list, impl.Vm{Frames: []impl.Frame{{Proto: number, Pc: pc}}}, 0)
		}
	}
	for _, number := range []int{-1, 5, 6, math.MaxInt, math.MinInt} {
		wantAtLine(t, list, impl.Vm{Frames: []impl.Frame{{Proto: 3}, {Proto: number}}}, 0)
	}
	for _, m := range []impl.Vm{{}, {Frames: []impl.Frame{}}, {Kind: impl.VmBad}, {Kind: impl.VmDone, Steps: 3}} {
		wantAtLine(t, list, m, 0)
		wantAtLine(t, nil, m, 0)
	}
	wantAtLine(t, nil, impl.Vm{Frames: []impl.Frame{{}}}, 0)
	wantAtLine(t, []impl.Proto{}, impl.Vm{Frames: []impl.Frame{{}}}, 0)
	// What the rest of the code is like does not count, no more than for VmLine.
	wantAtLine(t, []impl.Proto{{Slots: 201, Code: []impl.Instr{{Op: 20, Line: 5}}}}, impl.Vm{Frames: []impl.Frame{{}}}, 5)
}

// cameTo is a trail of this road that came to a step from the start.
func (o *outlook) cameTo(t *testing.T, every int, step int) impl.Trail {
	t.Helper()
	trail := wentTo(mustStart(t, o.list, every), step)
	if trail.Now.Steps != step {
		t.Fatal("there is no step", step)
	}
	return trail
}

// A goal is where one comes from a step, by lines.
type goal struct {
	now   int
	lines []int
	step  int
	said  int
}

func wantStop(t *testing.T, what string, got stopped, step int, said int) {
	t.Helper()
	if got.Trail.Now.Steps != step || got.Said != said {
		t.Fatal(what, "is at", got.Trail.Now.Steps, "and says", got.Said, "not at", step, "and", said)
	}
}

func TestRunToMost(t *testing.T) {
	o := outlookOf(compiled(t, endless))
	end := outlookOf(endingAt(impl.VmDone, 60))
	for _, every := range []int{7, 1000} {
		for _, now := range []int{0, 1, 3, 100} {
			trail := o.cameTo(t, every, now)
			for _, most := range []int{0, -1, -3000, 3001, 3002, 9000, math.MaxInt, math.MinInt} {
				for _, trail := range []impl.Trail{trail, end.cameTo(t, every, 60)} {
					wantStayed(t, "RunTo", trail, stopAsked(t, trail, []int{1}, runTo(most)), impl.StopMost)
					wantStayed(t, "Over", trail, stopAsked(t, trail, nil, over(most)), impl.StopMost)
					wantStayed(t, "Out", trail, stopAsked(t, trail, nil, out(most)), impl.StopMost)
				}
			}
			for _, most := range []int{1, 2, 3, 4, 2999, 3000} {
				wantStop(t, "RunTo", o.wantRunTo(t, stopAsked[stopped], trail, nil, most), now+most, impl.StopMost)
				wantStop(t, "RunTo", o.wantRunTo(t, stopAsked[stopped], trail, []int{2, 3, 0, -1, 2, math.MaxInt, math.MinInt}, most), now+most, impl.StopMost)
				wantStop(t, "Out", o.wantOut(t, stopAsked[stopped], trail, most), now+most, impl.StopMost)
				next := now + 3 - now%3
				for _, got := range []stopped{o.wantRunTo(t, stopAsked[stopped], trail, []int{1}, most), o.wantOver(t, stopAsked[stopped], trail, most)} {
					if next <= now+most {
						wantStop(t, "a stop", got, next, impl.StopHit)
					} else {
						wantStop(t, "a stop", got, now+most, impl.StopMost)
					}
				}
			}
		}
	}
}

// Lines may stand in any order, twice, and be none that there can be.
func TestRunToAnyLines(t *testing.T) {
	o := outlookOf(compiled(t, "local function f(a)\nlocal b = a + 1\nreturn b\nend\nlocal x = f(1)\nx = f(x)\nprint(x)\n"))
	for _, c := range []goal{
		// From a line that it is at it goes on to where it is there the next time.
		{0, []int{1}, 28, 0}, {28, []int{1}, 30, 1}, {27, []int{1}, 28, 0}, {1, []int{1}, 28, 0}, {4, []int{5}, 30, 1}, {3, []int{5}, 4, 0}, {7, []int{2}, 17, 0}, {17, []int{2}, 30, 1}, {8, []int{2, 3}, 11, 0},
		{0, nil, 30, 1}, {0, []int{}, 30, 1}, {0, []int{4}, 30, 1}, {0, []int{8, 100}, 30, 1}, {0, []int{0, -1, math.MinInt}, 30, 1}, {29, []int{7}, 30, 1}, {29, nil, 30, 1},
		{0, []int{7, 2, 7, 2, 3}, 7, 0}, {0, []int{7, 7, 3, 3}, 11, 0}, {0, []int{3, 0, -5, 4, 7}, 11, 0}, {12, []int{7, 6, 5}, 14, 0}, {14, []int{7, 6, 5}, 24, 0}, {0, []int{1, 2, 3, 4, 5, 6, 7}, 4, 0}, {0, slices.Repeat([]int{6}, 3000), 14, 0},
	} {
		for _, every := range []int{1, 4, 50} {
			wantStop(t, "RunTo", o.wantRunTo(t, stopAsked[stopped], o.cameTo(t, every, c.now), c.lines, 100), c.step, c.said)
		}
		// With just as many steps as it takes, and with one less.
		trail, most := o.cameTo(t, 5, c.now), c.step-c.now
		wantStop(t, "RunTo", o.wantRunTo(t, plainly, trail, c.lines, most), c.step, c.said)
		if most > 1 {
			wantStop(t, "RunTo", o.wantRunTo(t, plainly, trail, c.lines, most-1), c.step-1, impl.StopMost)
		}
	}
}

// A line with instructions of two functions is come to by a call, and not by the return from it.
func TestLineOfTwoFunctions(t *testing.T) {
	o := outlookOf(compiled(t, "local function f()\nreturn 1 end local x = f() f()\nreturn x"))
	trail := mustStart(t, o.list, 5)
	for _, step := range []int{4, 6, 11} {
		got := o.wantRunTo(t, stopAsked[stopped], trail, []int{2}, 3000)
		wantStop(t, "RunTo", got, step, impl.StopHit)
		trail = got.Trail
	}
	got := o.wantRunTo(t, stopAsked[stopped], trail, []int{2}, 3000)
	wantStop(t, "RunTo", got, 16, impl.StopEnd)
	for _, step := range []int{11, 6, 4} {
		got = o.wantBackTo(t, stopAsked[stopped], got.Trail, []int{2})
		wantStop(t, "BackTo", got, step, impl.StopHit)
	}
	wantStop(t, "BackTo", o.wantBackTo(t, stopAsked[stopped], got.Trail, []int{2}), 0, impl.StopEnd)
	// The second call is as deep as the first one was.
	wantStop(t, "Over", o.wantOver(t, stopAsked[stopped], o.cameTo(t, 5, 6), 100), 11, impl.StopHit)
	wantStop(t, "Over", o.wantOver(t, stopAsked[stopped], o.cameTo(t, 5, 11), 100), 14, impl.StopHit)
	wantStop(t, "Over", o.wantOver(t, stopAsked[stopped], o.cameTo(t, 5, 4), 100), 14, impl.StopHit)
	wantStop(t, "Out", o.wantOut(t, stopAsked[stopped], o.cameTo(t, 5, 6), 100), 8, impl.StopHit)
	if got := o.wantHits(t, trail, []int{2}, 100); !slices.Equal(got, []int{4, 6, 11}) {
		t.Error("Hits", got)
	}
}

// The machine of endless is at line 1 at each third step, so at 9000, too.
func TestStopsAtMaxTrail(t *testing.T) {
	t.Parallel()
	o := outlookOf(compiled(t, endless))
	for _, every := range []int{50, 1000} {
		last := o.cameTo(t, every, 9000)
		for _, most := range []int{1, 2, 3000} {
			for _, lines := range [][]int{nil, {1}, {2}} {
				wantStayed(t, "RunTo", last, o.wantRunTo(t, plainly, last, lines, most), impl.StopMost)
			}
			wantStayed(t, "Over", last, o.wantOver(t, plainly, last, most), impl.StopMost)
			wantStayed(t, "Out", last, o.wantOut(t, plainly, last, most), impl.StopMost)
			ahead := o.cameTo(t, every, 8999)
			wantStop(t, "RunTo", o.wantRunTo(t, plainly, ahead, []int{1}, most), 9000, impl.StopHit)
			wantStop(t, "RunTo", o.wantRunTo(t, plainly, ahead, []int{2}, most), 9000, impl.StopMost)
			wantStop(t, "Over", o.wantOver(t, plainly, ahead, most), 9000, impl.StopHit)
			wantStop(t, "Out", o.wantOut(t, plainly, ahead, most), 9000, impl.StopMost)
		}
		wantStop(t, "RunTo", o.wantRunTo(t, plainly, o.cameTo(t, every, 6001), nil, 3000), 9000, impl.StopMost)
		wantStop(t, "RunTo", o.wantRunTo(t, plainly, o.cameTo(t, every, 6000), nil, 3000), 9000, impl.StopMost)
		wantStop(t, "RunTo", o.wantRunTo(t, plainly, o.cameTo(t, every, 5999), nil, 3000), 8999, impl.StopMost)
		wantStop(t, "BackTo", o.wantBackTo(t, plainly, last, []int{1}), 8997, impl.StopHit)
		wantStop(t, "BackTo", o.wantBackTo(t, plainly, last, []int{2}), 0, impl.StopEnd)
	}
	for _, kind := range []int{impl.VmDone, impl.VmError, impl.VmBad} {
		for end, said := range map[int]int{9000: impl.StopEnd, 9001: impl.StopMost} {
			o := outlookOf(endingAt(kind, end))
			ahead, last := o.cameTo(t, 1000, 8999), o.cameTo(t, 1000, 9000)
			wantStop(t, "RunTo", o.wantRunTo(t, plainly, ahead, nil, 1), 9000, said)
			if over := o.wantOver(t, plainly, ahead, 3000); said == impl.StopEnd {
				wantStop(t, "Over", over, 9000, said)
			}
			wantStop(t, "Out", o.wantOut(t, plainly, ahead, 3000), 9000, said)
			wantStayed(t, "RunTo", last, o.wantRunTo(t, plainly, last, []int{0, 8998}, 3000), said)
			wantStayed(t, "Out", last, o.wantOut(t, plainly, last, 3000), said)
		}
	}
}

// Machines that end at just the last step that is allowed, and one behind it.
func TestStopsAtTheEnd(t *testing.T) {
	t.Parallel()
	for _, kind := range []int{impl.VmDone, impl.VmError, impl.VmBad} {
		for _, end := range []int{3, 60, 3000, 3001} {
			o := outlookOf(endingAt(kind, end))
			for _, now := range []int{0, 1, end - 2, end - 1} {
				trail := o.cameTo(t, 50, now)
				for _, most := range []int{end - now - 1, end - now, end - now + 1, 3000} {
					if most < 1 || most > 3000 {
						continue
					}
					step, said := now+most, impl.StopMost
					if step >= end {
						step, said = end, impl.StopEnd
					}
					wantStop(t, "RunTo", o.wantRunTo(t, stopAsked[stopped], trail, []int{-7}, most), step, said)
					wantStop(t, "Out", o.wantOut(t, stopAsked[stopped], trail, most), step, said)
					o.wantOver(t, stopAsked[stopped], trail, most)
				}
			}
			ended := o.cameTo(t, 50, end)
			for _, most := range []int{1, 100, 3000} {
				wantStayed(t, "RunTo", ended, stopAsked(t, ended, []int{0, 1}, runTo(most)), impl.StopEnd)
				wantStayed(t, "Over", ended, stopAsked(t, ended, nil, over(most)), impl.StopEnd)
				wantStayed(t, "Out", ended, stopAsked(t, ended, nil, out(most)), impl.StopEnd)
			}
			wantStop(t, "BackTo", o.wantBackTo(t, stopAsked[stopped], ended, nil), 0, impl.StopEnd)
			// Each instruction but the last ones has a Line of its own, that of its place.
			if end > 3 {
				wantStop(t, "BackTo", o.wantBackTo(t, stopAsked[stopped], ended, []int{end - 3, 1}), end-3, impl.StopHit)
			}
		}
	}
}

// Lines are those of the code, also where that is made by hand: a machine may be at a line below 1.
func TestLinesBelowOne(t *testing.T) {
	o := outlookOf([]impl.Proto{{Code: []impl.Instr{{Line: 4}, {Line: 0}, {Line: 0}, {Line: -3}, {Line: -3}, {Line: 2}, {Op: impl.OpReturn}}}})
	start := mustStart(t, o.list, 2)
	for _, c := range []struct{ line, step, said int }{{0, 1, 0}, {-3, 3, 0}, {2, 5, 0}, {-1, 7, 1}, {4, 7, 1}} {
		wantStop(t, "RunTo", o.wantRunTo(t, stopAsked[stopped], start, []int{c.line}, 100), c.step, c.said)
	}
	wantStop(t, "RunTo", o.wantRunTo(t, stopAsked[stopped], o.cameTo(t, 2, 1), []int{0}, 100), 6, impl.StopHit)
	wantStop(t, "BackTo", o.wantBackTo(t, stopAsked[stopped], o.cameTo(t, 2, 6), []int{0}), 1, impl.StopHit)
	wantStop(t, "Over", o.wantOver(t, stopAsked[stopped], start, 100), 1, impl.StopHit)
	if got := o.wantHits(t, start, []int{0}, 100); !slices.Equal(got, []int{1, 6}) {
		t.Error("Hits", got)
	}
}

// Marks are those of TrailTo, wherever Now is, and also where marks lie behind it.
func TestMarksOfStops(t *testing.T) {
	o := outlookOf(compiled(t, endless))
	nineAndThirty, forty := multiples(1, 39), multiples(1, 40)
	for _, c := range []struct {
		every, now int
		marks      []int
		most       int
		made       []int
	}{
		{10, 0, []int{0}, 50, []int{10, 20, 30, 40, 50}}, {10, 0, []int{0}, 49, []int{10, 20, 30, 40}}, {10, 25, []int{0}, 25, []int{30, 40, 50}}, {10, 20, []int{0}, 25, []int{30, 40}}, {10, 20, []int{0}, 9, nil},
		// From the last mark not behind where it ends, though Now is ahead of it.
		{10, 5, []int{0, 95}, 80, nil}, {10, 5, []int{0, 95}, 90, nil}, {10, 5, []int{0, 95}, 105, []int{100, 110}}, {10, 99, []int{0, 95}, 1, []int{100}},
		{10, 1, []int{0, 3, 7, 33}, 40, []int{40}}, {10, 8, []int{0, 3, 7}, 23, []int{10, 20, 30}}, {1000, 5500, []int{0}, 2500, []int{6000, 7000, 8000}},
		{1, 39, nineAndThirty, 6, []int{40}}, {1, 500, nineAndThirty, 1, []int{501}}, {1, 39, forty, 6, nil}, {1, 500, forty, 3000, nil}, {1, 10, forty, 100, nil}, {1, 10, nineAndThirty, 100, []int{39}},
		{1000, 6500, []int{0}, 3000, []int{7000, 8000, 9000}}, {1000, 9000, []int{0}, 3000, nil},
	} {
		trail := o.trail(c.every, c.now, c.marks...)
		for _, got := range []stopped{o.wantRunTo(t, stopAsked[stopped], trail, []int{9}, c.most), o.wantOut(t, stopAsked[stopped], trail, c.most)} {
			wantStop(t, "a stop", got, min(c.now+c.most, 9000), impl.StopMost)
			if want := append(slices.Clone(c.marks), c.made...); !slices.Equal(stepsOfMarks(got.Trail), want) {
				t.Error("from", c.now, "by", c.most, "marks are at", stepsOfMarks(got.Trail), "not", want)
			}
		}
		o.wantRunTo(t, stopAsked[stopped], trail, []int{1}, c.most)
		o.wantOver(t, stopAsked[stopped], trail, c.most)
		o.wantBackTo(t, stopAsked[stopped], trail, []int{1})
		o.wantBackTo(t, stopAsked[stopped], trail, nil)
	}
	// BackTo goes from the last mark not behind where it ends, and makes those marks that lie on this way.
	long := outlookOf(compiled(t, counting))
	got := long.wantBackTo(t, stopAsked[stopped], long.trail(10, 400, 0), []int{3})
	if got.Said != impl.StopHit || !slices.Equal(stepsOfMarks(got.Trail), multiples(10, got.Trail.Now.Steps/10+1)) {
		t.Error("BackTo is at", got.Trail.Now.Steps, "with marks at", stepsOfMarks(got.Trail))
	}
}

func TestBackTo(t *testing.T) {
	o := outlookOf(compiled(t, "local function f(a)\nlocal b = a + 1\nreturn b\nend\nlocal x = f(1)\nx = f(x)\nprint(x)\n"))
	for _, c := range []goal{
		{30, []int{1}, 28, 0}, {29, []int{1}, 28, 0}, {28, []int{1}, 0, 0}, {1, []int{1}, 0, 0}, {0, []int{1}, 0, 1}, {0, nil, 0, 1}, {0, []int{2, 5}, 0, 1}, {0, []int{0}, 0, 1}, {1, []int{0, -1}, 0, 1},
		{30, []int{2}, 17, 0}, {18, []int{2}, 17, 0}, {17, []int{2}, 7, 0}, {8, []int{2}, 7, 0}, {7, []int{2}, 0, 1}, {7, []int{2, 1}, 0, 0}, {7, []int{5, 2, 2}, 4, 0}, {30, []int{3, 2}, 21, 0}, {21, []int{3, 2}, 17, 0},
		{30, nil, 0, 1}, {30, []int{}, 0, 1}, {30, []int{4, 8, 0, -7}, 0, 1}, {30, []int{5}, 4, 0}, {5, []int{5}, 4, 0}, {4, []int{5}, 0, 1}, {30, []int{math.MaxInt, 7, math.MinInt}, 24, 0}, {24, []int{7, 7}, 0, 1},
	} {
		for _, every := range []int{1, 4, 50} {
			trail := o.cameTo(t, every, c.now)
			wantStop(t, "BackTo", o.wantBackTo(t, stopAsked[stopped], trail, c.lines), c.step, c.said)
			// It is all the same whether marks lie behind Now.
			further := impl.TrailTo(o.cameTo(t, every, 30), c.now)
			wantStop(t, "BackTo", o.wantBackTo(t, stopAsked[stopped], further, c.lines), c.step, c.said)
		}
	}
	long := outlookOf(endingAt(impl.VmDone, 9000))
	for _, line := range []int{1, 2, 40, 4999, 8997} {
		wantStop(t, "BackTo", long.wantBackTo(t, plainly, long.cameTo(t, 1000, 9000), []int{line}), line, impl.StopHit)
	}
}

func (o *outlook) lineOf(step int) int {
	m := o.at(step)
	return impl.VmLine(o.list, m)
}

// cameToLine is a trail that is at a line for the first time, or the second, and so on.
func (o *outlook) cameToLine(t *testing.T, line int, time int) impl.Trail {
	t.Helper()
	steps := o.elderHits([]int{line}, 3000)
	if len(steps) < time {
		t.Fatal("line", line, "is not come to", time, "times")
	}
	return o.cameTo(t, 10, steps[time-1])
}

// wantStandsAt asks where the machine stands: in which line, and how deep.
func wantStandsAt(t *testing.T, o *outlook, got stopped, said int, line int, deep int) {
	t.Helper()
	if now := got.Trail.Now; got.Said != said || o.lineOf(now.Steps) != line || len(now.Frames) != deep {
		t.Fatal("it says", got.Said, "in line", o.lineOf(now.Steps), "and is", len(now.Frames), "deep, not", said, line, deep)
	}
}

func TestOver(t *testing.T) {
	const hit, end, most = impl.StopHit, impl.StopEnd, impl.StopMost
	for _, c := range []struct {
		src             string
		line, time      int
		said, to, depth int
	}{
		// What is called is run through, be it called once or often, and whatever that calls.
		{calling, 12, 1, hit, 1, 1}, {calling, 5, 1, hit, 12, 1}, {calling, 6, 1, hit, 7, 2}, {calling, 2, 1, hit, 3, 3},
		// From the last line of a function it goes out, to the next line there, or to one of a function called from the midst of that line.
		{calling, 3, 1, hit, 7, 2}, {calling, 3, 2, hit, 2, 3}, {calling, 3, 3, hit, 1, 1}, {calling, 7, 1, hit, 1, 1},
		{failing, 9, 1, hit, 10, 1}, {failing, 10, 1, hit, 11, 1}, {failing, 11, 1, end, 0, 0}, {failing, 2, 1, hit, 10, 1}, {failing, 6, 1, hit, 10, 1}, {failing, 2, 2, end, 0, 0},
		{recursing, 7, 1, hit, 8, 1}, {recursing, 3, 1, hit, 5, 2}, {recursing, 3, 2, hit, 5, 3}, {recursing, 3, 3, hit, 5, 4}, {recursing, 2, 4, hit, 5, 5}, {recursing, 5, 1, hit, 5, 4}, {recursing, 5, 2, hit, 5, 3}, {recursing, 5, 4, hit, 8, 1}, {recursing, 8, 1, hit, 1, 1},
		{counting, 2, 1, hit, 3, 1}, {counting, 3, 1, hit, 4, 1}, {counting, 4, 1, hit, 2, 1}, {counting, 4, 5, hit, 2, 1}, {counting, 6, 1, most, 6, 1},
		{callsWithoutEnd, 5, 1, most, 2, 2}, {callsWithoutEnd, 2, 1, hit, 2, 2}, {callsWithoutEnd, 2, 7, hit, 2, 2},
	} {
		o := outlookOf(compiled(t, c.src))
		trail := o.cameToLine(t, c.line, c.time)
		got := o.wantOver(t, stopAsked[stopped], trail, 3000)
		wantStandsAt(t, o, got, c.said, c.to, c.depth)
		if took := got.Trail.Now.Steps - trail.Now.Steps; c.said != most && took > 1 {
			wantStop(t, "Over", o.wantOver(t, stopAsked[stopped], trail, took), got.Trail.Now.Steps, c.said)
			wantStop(t, "Over", o.wantOver(t, stopAsked[stopped], trail, took-1), got.Trail.Now.Steps-1, most)
		}
	}
	// From the midst of a line, within a call of try, and with frames that a call of the same depth took the place of.
	o := outlookOf(compiled(t, "local t = {} print(try(function()\nlocal a = t\na = t\nprint(a)\nend))\nprint(try(function()\nt = 1 end)) t = 2\nt = 3\n"))
	for _, c := range [][3]int{{1, 6, 1}, {2, 3, 2}, {3, 4, 2}, {4, 2, 2}, {6, 7, 1}, {7, 7, 1}} {
		trail := o.cameToLine(t, c[0], 1)
		if c[0] == 1 {
			trail = mustStart(t, o.list, 10)
		}
		wantStandsAt(t, o, o.wantOver(t, stopAsked[stopped], trail, 3000), hit, c[1], c[2])
		wantStandsAt(t, o, o.wantOver(t, stopAsked[stopped], impl.TrailOn(trail, 1), 3000), hit, c[1], c[2])
	}
}

func TestOut(t *testing.T) {
	const hit, end, most = impl.StopHit, impl.StopEnd, impl.StopMost
	for _, c := range []struct {
		src             string
		line, time      int
		said, to, depth int
	}{
		// To the midst of the line of the call; what is called on the way is run through.
		{calling, 2, 1, hit, 6, 2}, {calling, 3, 1, hit, 6, 2}, {calling, 2, 2, hit, 7, 2}, {calling, 2, 3, hit, 7, 2}, {calling, 6, 1, hit, 12, 1}, {calling, 7, 1, hit, 12, 1},
		{calling, 5, 1, end, 0, 0}, {calling, 12, 1, end, 0, 0},
		// Through an error that goes out of a call, or of two, or of all.
		{failing, 2, 1, hit, 9, 1}, {failing, 6, 1, hit, 9, 1}, {failing, 9, 1, end, 0, 0}, {failing, 10, 1, end, 0, 0}, {failing, 2, 2, end, 0, 0}, {failing, 6, 2, end, 0, 0},
		{recursing, 2, 1, hit, 7, 1}, {recursing, 2, 2, hit, 3, 2}, {recursing, 2, 4, hit, 3, 4}, {recursing, 3, 3, hit, 3, 3}, {recursing, 5, 1, hit, 3, 4}, {recursing, 5, 4, hit, 7, 1}, {recursing, 7, 1, end, 0, 0},
		{counting, 2, 1, most, 6, 1}, {counting, 6, 1, most, 6, 1}, {callsWithoutEnd, 2, 1, most, 2, 2}, {callsWithoutEnd, 5, 1, most, 2, 2},
	} {
		o := outlookOf(compiled(t, c.src))
		trail := o.cameToLine(t, c.line, c.time)
		got := o.wantOut(t, stopAsked[stopped], trail, 3000)
		wantStandsAt(t, o, got, c.said, c.to, c.depth)
		if c.said == most {
			wantStop(t, "Out", got, trail.Now.Steps+3000, most)
			continue
		}
		if took := got.Trail.Now.Steps - trail.Now.Steps; took > 1 {
			wantStop(t, "Out", o.wantOut(t, stopAsked[stopped], trail, took), got.Trail.Now.Steps, c.said)
			wantStop(t, "Out", o.wantOut(t, stopAsked[stopped], trail, took-1), got.Trail.Now.Steps-1, most)
		}
	}
	// From a machine that ends bad, within a call.
	o := outlookOf([]impl.Proto{{Code: []impl.Instr{{Op: impl.OpFunc, A: 1}, {Op: impl.OpCall}, {Op: impl.OpReturn}}}, {Code: []impl.Instr{{Line: 1}, {Op: impl.OpIndex, Line: 2}}}})
	wantStop(t, "Out", o.wantOut(t, stopAsked[stopped], o.cameTo(t, 5, 2), 100), 4, end)
	wantStop(t, "Over", o.wantOver(t, stopAsked[stopped], o.cameTo(t, 5, 3), 100), 4, end)
}

func TestHits(t *testing.T) {
	o := outlookOf(compiled(t, "local function f(a)\nlocal b = a + 1\nreturn b\nend\nlocal x = f(1)\nx = f(x)\nprint(x)\n"))
	for _, c := range []struct {
		lines []int
		most  int
		want  []int
	}{
		{[]int{2}, 3000, []int{7, 17}}, {[]int{2}, 17, []int{7, 17}}, {[]int{2}, 16, []int{7}}, {[]int{2}, 7, []int{7}}, {[]int{2}, 6, nil}, {[]int{2}, 1, nil}, {[]int{2}, 0, nil},
		{[]int{2}, -1, nil}, {[]int{2}, 3001, nil}, {[]int{2}, math.MaxInt, nil}, {[]int{2}, math.MinInt, nil}, {[]int{2}, 30, []int{7, 17}},
		// Step 0 is none of those behind it.
		{[]int{1}, 3000, []int{28}}, {[]int{1}, 0, nil}, {[]int{1}, 1, nil}, {[]int{1}, 27, nil}, {[]int{1}, 28, []int{28}},
		{nil, 3000, nil}, {[]int{}, 3000, nil}, {[]int{4, 8, 0, -1, math.MinInt}, 3000, nil},
		{[]int{7, 3, 7, 2}, 3000, []int{7, 11, 17, 21, 24}}, {[]int{1, 2, 3, 4, 5, 6, 7}, 3000, []int{4, 7, 11, 14, 17, 21, 24, 28}}, {[]int{1, 2, 3, 4, 5, 6, 7}, 12, []int{4, 7, 11}},
	} {
		for _, now := range []int{0, 1, 7, 12, 17, 29, 30} {
			for _, trail := range []impl.Trail{o.cameTo(t, 4, now), impl.TrailTo(o.cameTo(t, 4, 30), now), o.trail(4, now, 0)} {
				if got := stopAsked(t, trail, c.lines, hits(c.most)); !slices.Equal(got, c.want) {
					t.Fatal("Hits of", c.lines, "up to", c.most, "are", got, "not", c.want)
				}
			}
		}
	}
	loop := outlookOf(compiled(t, endless))
	for most, count := range map[int]int{0: 0, 1: 0, 2: 0, 3: 1, 4: 1, 6: 2, 2999: 999, 3000: 1000, 3001: 0, -3: 0} {
		for _, now := range []int{0, 3000, 9000} {
			got := stopAsked(t, loop.cameTo(t, 1000, now), []int{1}, hits(most))
			if len(got) != count || count > 0 && (got[0] != 3 || got[count-1] != 3*count) {
				t.Error("up to", most, "there are", len(got))
			}
		}
	}
	// A program that ends at just the step that most is, and one that ends ahead of it or behind.
	for end := 2998; end <= 3003; end++ {
		o := outlookOf(endingAt(impl.VmError, end))
		if got := o.wantHits(t, o.cameTo(t, 1000, 100), []int{2997, 2998, 2999, 3000, 3001}, 3000); len(got) != min(end-2998, 4) {
			t.Error("an end at", end, "has hits", got)
		}
	}
}

// Behind a hit, one step on and back is where one had stopped; hits are where one stops again and again.
func TestStopsAgainAndAgain(t *testing.T) {
	for _, src := range append(slices.Clone(stopPrograms), everyForm, inLines("local i = 0 while i < 50 do i = i + 1 end return i")) {
		o := outlookOf(compiled(t, src))
		all := linesOf(o.list)
		for _, lines := range append([][]int{all, nil, {0, 1000}, all[:len(all)/2+1]}, slices.Collect(slices.Chunk(all, 1))...) {
			trail := mustStart(t, o.list, 25)
			var steps []int
			for {
				got := o.wantRunTo(t, plainly, trail, lines, 600)
				trail = got.Trail
				if got.Said != impl.StopHit {
					break
				}
				steps = append(steps, trail.Now.Steps)
				wantStop(t, "BackTo", o.wantBackTo(t, plainly, impl.TrailOn(trail, 1), lines), trail.Now.Steps, impl.StopHit)
				if len(steps) > 60 {
					break
				}
			}
			most := min(3000, trail.Now.Steps)
			if got := o.wantHits(t, trail, lines, most); !slices.Equal(got, steps) {
				t.Fatal("stops at", steps, "but hits", got, "of", lines)
			}
			trail = impl.TrailOn(trail, 1)
			if len(steps) > 60 {
				trail = impl.TrailTo(trail, most+1)
			}
			for _, step := range slices.Backward(steps) {
				got := o.wantBackTo(t, plainly, trail, lines)
				wantStop(t, "BackTo", got, step, impl.StopHit)
				trail = got.Trail
			}
			got := o.wantBackTo(t, plainly, trail, lines)
			if got.Trail.Now.Steps != 0 || (got.Said == impl.StopHit) != slices.Contains(lines, o.lineOf(0)) {
				t.Fatal("ahead of all hits it is at", got.Trail.Now.Steps, "and says", got.Said)
			}
		}
	}
}

// A trailToSpoil has marks at these steps, and is at the last one of them.
type trailToSpoil struct {
	src   string
	every int
	steps []int
}

var trailsToSpoil = []trailToSpoil{{calling, 5, []int{0, 11, 30, 24}}, {failing, 7, []int{0, 1, 14, 19}}, {"local a = {}\na.x = \"y\"\nerror(a)\n", 3, []int{0, 2, 6, 9}}}

// One thing of a trail after the other is turned: what is answered then hangs on whether it is right still.
func TestStopsOfTrailsThatAreSpoilt(t *testing.T) {
	t.Parallel()
	right, wrong := 0, 0
	for _, c := range append(slices.Clone(trailsToSpoil), trailToSpoil{endless, 50, []int{0, 4, 50, 4000}}) {
		o := outlookOf(compiled(t, c.src))
		trail := o.trail(c.every, c.steps[3], c.steps[:3]...)
		if !impl.TrailOk(trail) {
			t.Fatal("not right", c.src)
		}
		count := 0
		turnEach(reflect.ValueOf(&trail).Elem(), "trail", func(what string) {
			count++
			if elderTrailOk(trail) {
				right++
				own := outlookOf(trail.Code)
				own.wantRunTo(t, stopAsked[stopped], trail, []int{2, 7}, 40)
				own.wantOver(t, stopAsked[stopped], trail, 40)
				own.wantOut(t, stopAsked[stopped], trail, 40)
				own.wantBackTo(t, stopAsked[stopped], trail, []int{2, 6})
				own.wantHits(t, trail, []int{1, 2, 7}, 40)
				return
			}
			wrong++
			if wrong%5 == 0 || count < 3 {
				wantNoStops(t, trail)
				return
			}
			wantStayed(t, "RunTo", trail, stopAsked(t, trail, nil, runTo(5)), impl.StopMost)
			if _, said := impl.BackTo(trail, linesOf(o.list)); said != impl.StopMost || len(impl.Hits(trail, linesOf(o.list), 100)) > 0 {
				t.Fatal("it is right:", what)
			}
		})
	}
	if right < 20 || wrong < 500 {
		t.Error("too few are right or wrong:", right, wrong)
	}
}
