package tests

import (
	"math"
	"reflect"
	"slices"
	"strings"
	"testing"

	"loop.example/g00258/impl"
)

const endless = "while true do end"

func TestConstantsOfTrails(t *testing.T) {
	if impl.MaxMarks != 40 || impl.MaxTrail != 9000 {
		t.Error("constants", impl.MaxMarks, impl.MaxTrail)
	}
}

// started is TrailStart, of which all is asked that holds for any answer.
func started(t *testing.T, list []impl.Proto, every int) (impl.Trail, bool) {
	t.Helper()
	type answer struct {
		Trail impl.Trail
		Ok    bool
	}
	a := asked(t, list, impl.Vm{}, func(list []impl.Proto, m impl.Vm) answer {
		trail, ok := impl.TrailStart(list, every)
		return answer{trail, ok}
	})
	return a.Trail, a.Ok
}

func mustStart(t *testing.T, list []impl.Proto, every int) impl.Trail {
	t.Helper()
	trail, ok := started(t, list, every)
	if !ok {
		t.Fatal("no trail with Every", every)
	}
	return trail
}

func wantNoStart(t *testing.T, list []impl.Proto, every int) {
	t.Helper()
	trail, ok := started(t, list, every)
	if ok || !reflect.DeepEqual(trail, impl.Trail{}) {
		t.Fatal("a trail with Every", every, "of", len(list), "protos")
	}
}

func TestTrailStart(t *testing.T) {
	lists := [][]impl.Proto{compiled(t, ""), compiled(t, endless), compiled(t, everyForm), compiled(t, "local a local b return a"), {{}}, {{Slots: 200}, {Params: 8, Slots: 9}}, endingAt(impl.VmBad, 5)}
	for _, list := range lists {
		for _, every := range []int{1, 2, 7, 50, 999, 1000} {
			trail := mustStart(t, list, every)
			start := impl.VmStart(list)
			wantSameTrail(t, trail, impl.Trail{Code: list, Every: every, Marks: []impl.Vm{start}, Now: start})
			roadOf(list).wantRightAt(t, impl.Trail{}, trail)
		}
		for _, every := range []int{0, -1, -7, -1000, 1001, 1002, math.MaxInt, math.MinInt} {
			wantNoStart(t, list, every)
		}
	}
	for _, list := range wrongLists() {
		for _, every := range []int{1, 50, 1000, 0, 1001, -1} {
			wantNoStart(t, list, every)
		}
	}
}

// wentTo brings a trail to a step by as many goes as it takes.
func wentTo(trail impl.Trail, step int) impl.Trail {
	trail = impl.TrailTo(trail, step)
	for trail.Now.Steps < step && trail.Now.Kind == impl.VmRuns {
		trail = impl.TrailOn(trail, min(step-trail.Now.Steps, impl.MaxRun))
	}
	return trail
}

func TestTrailToItsBounds(t *testing.T) {
	r := roadOf(compiled(t, endless))
	for now, steps := range map[int]map[int]int{
		0:    {math.MinInt: 0, -9000: 0, -1: 0, 0: 0, 1: 1, 2: 2, 2999: 2999, 3000: 3000, 3001: 3000, 9000: 3000, math.MaxInt: 3000},
		1:    {math.MinInt: 0, -1: 0, 0: 0, 1: 1, 2: 2, 3000: 3000, 3001: 3001, 3002: 3001, math.MaxInt: 3001},
		100:  {-1: 0, 0: 0, 1: 1, 99: 99, 100: 100, 101: 101, 3099: 3099, 3100: 3100, 3101: 3100, 9001: 3100},
		5999: {0: 0, 3: 3, 2999: 2999, 5999: 5999, 8998: 8998, 8999: 8999, 9000: 8999, 9001: 8999},
		6000: {-1: 0, 0: 0, 1: 1, 5999: 5999, 8999: 8999, 9000: 9000, 9001: 9000, math.MaxInt: 9000},
		6001: {8999: 8999, 9000: 9000, 9001: 9000, 9002: 9000, math.MaxInt: 9000},
		9000: {math.MinInt: 0, -1: 0, 0: 0, 1: 1, 40: 40, 5999: 5999, 8999: 8999, 9000: 9000, 9001: 9000, math.MaxInt: 9000},
	} {
		for _, every := range []int{7, 1000} {
			trail := wentTo(mustStart(t, r.list, every), now)
			for step, want := range steps {
				if got := r.wantTo(t, trail, step); got.Now.Steps != want || impl.TrailEnd(got) {
					t.Error("from", now, "to", step, "it is at", got.Now.Steps, "not", want)
				}
			}
		}
	}
}

// A step behind the end is the end; from there one goes back as from any step.
func TestTrailToTheEnd(t *testing.T) {
	t.Parallel()
	for _, kind := range []int{impl.VmDone, impl.VmError, impl.VmBad} {
		for _, end := range []int{2, 3, 50, 51, 150, 3000} {
			r := roadOf(endingAt(kind, end))
			for _, every := range []int{1, 50, 1000}[end/1500:] {
				start := mustStart(t, r.list, every)
				for _, step := range []int{0, 1, end - 2, end - 1} {
					if got := r.wantTo(t, start, step); got.Now.Steps != step || impl.TrailEnd(got) {
						t.Error("it has ended at", got.Now.Steps)
					}
				}
				for _, step := range []int{end, end + 1, end + 50, 3000, 9000, math.MaxInt} {
					got := r.wantTo(t, start, step)
					if got.Now.Steps != end || got.Now.Kind != kind || !impl.TrailEnd(got) {
						t.Error("the end is at", got.Now.Steps, "with Kind", got.Now.Kind)
					}
				}
				ended := impl.TrailTo(start, end)
				for _, step := range []int{-1, 0, 1, end - 1, end, end + 1, end + 3000, end + 3001, 9001} {
					got := r.wantTo(t, ended, step)
					if got.Now.Steps != min(max(step, 0), end) || impl.TrailEnd(got) != (step >= end) {
						t.Error("from the end to", step, "it is at", got.Now.Steps)
					}
				}
			}
		}
	}
}

// Machines that end just where a trail's bound is, and just behind it.
func TestTrailEndsAtItsBound(t *testing.T) {
	t.Parallel()
	for _, kind := range []int{impl.VmDone, impl.VmError, impl.VmBad} {
		for end, want := range map[int]int{8999: kind, 9000: kind, 9001: impl.VmRuns} {
			r := roadOf(endingAt(kind, end))
			trail := mustStart(t, r.list, 1000)
			for _, step := range []int{3000, 6000, 9000, 9001} {
				trail = r.wantTo(t, trail, step)
			}
			if trail.Now.Kind != want || trail.Now.Steps != min(end, 9000) || impl.TrailEnd(trail) != (want != impl.VmRuns) {
				t.Error("an end at", end, "is Kind", trail.Now.Kind, "at", trail.Now.Steps)
			}
			if !slices.Equal(stepsOfMarks(trail), multiples(1000, 9+end/9001)) {
				t.Error("marks at", stepsOfMarks(trail))
			}
		}
	}
}

func TestMarksOnTheWay(t *testing.T) {
	t.Parallel()
	r := roadOf(compiled(t, "local i = 0 while true do i = i + 1 if i < 150 then print(i % 10) end local x = i end"))
	for _, every := range []int{1, 2, 7, 50, 75, 76, 77} {
		start := mustStart(t, r.list, every)
		// The fortieth mark is the last one for which there is room.
		for count := range 43 {
			for _, more := range []int{0, every - 1} {
				got := impl.TrailTo(start, count*every+more)
				if want := min(3000/every, count, 39) + 1; !slices.Equal(stepsOfMarks(got), multiples(every, want)) {
					t.Fatal("Every", every, "to", count*every+more, "has marks at", stepsOfMarks(got))
				}
				for i, m := range got.Marks {
					wantSameVm(t, m, r.at(i*every))
				}
			}
		}
		for _, step := range []int{every, 38*every + 1, 39*every - 1, 39 * every, 40 * every} {
			r.wantTo(t, start, step)
		}
	}
	// In a trail of MaxTrail steps marks at each thousandth are ten.
	for every, count := range map[int]int{225: 40, 230: 40, 231: 39, 999: 10, 1000: 10} {
		trail := wentTo(mustStart(t, r.list, every), 9000)
		if !slices.Equal(stepsOfMarks(trail), multiples(every, count)) || trail.Now.Steps != 9000 {
			t.Error("Every", every, "has marks at", stepsOfMarks(trail))
		}
		for _, step := range []int{0, 1, every, every + 1, 5000, 8999, 9000} {
			if got := r.wantTo(t, trail, step); len(got.Marks) != count {
				t.Error("marks at", stepsOfMarks(got))
			}
		}
	}
}

// A machine that has ended is no mark, be its Steps as they may.
func TestEndsAreNoMarks(t *testing.T) {
	for _, kind := range []int{impl.VmDone, impl.VmError, impl.VmBad} {
		r := roadOf(endingAt(kind, 20))
		for every, count := range map[int]int{1: 20, 2: 10, 4: 5, 5: 4, 10: 2, 19: 2, 20: 1, 21: 1} {
			for _, step := range []int{20, 21, 40, 3000} {
				got := r.wantTo(t, mustStart(t, r.list, every), step)
				if !slices.Equal(stepsOfMarks(got), multiples(every, count)) {
					t.Error("Every", every, "has marks at", stepsOfMarks(got))
				}
				again := r.wantTo(t, r.wantTo(t, got, 3), step)
				if !slices.Equal(stepsOfMarks(again), multiples(every, count)) {
					t.Error("Every", every, "has marks, the second time, at", stepsOfMarks(again))
				}
			}
		}
	}
}

// No mark is made twice, and those behind Now are kept.
func TestMarksBackAndOn(t *testing.T) {
	r := roadOf(compiled(t, everyForm))
	for _, every := range []int{7, 50} {
		trail := r.wantTo(t, mustStart(t, r.list, every), 220)
		marks := stepsOfMarks(trail)
		for _, step := range []int{219, 100, 99, 3, 0, 1, 49, 50, 51, 140, 7, 220, 200} {
			trail = r.wantTo(t, trail, step)
			if !slices.Equal(stepsOfMarks(trail), marks) {
				t.Error("at", step, "marks at", stepsOfMarks(trail))
			}
		}
		if trail = r.wantTo(t, trail, 350); !slices.Equal(stepsOfMarks(trail), multiples(every, min(350/every, 39)+1)) {
			t.Error("marks at", stepsOfMarks(trail))
		}
	}
}

// In trails written by hand one sees where the way began, by the marks that it made.
func TestWhereTheWayBegins(t *testing.T) {
	r := roadOf(compiled(t, endless))
	nineAndThirty, forty := multiples(1, 39), multiples(1, 40)
	for _, c := range []struct {
		every, now int
		marks      []int
		step       int
		made       []int
	}{
		// From Now, where that is between; else from the mark.
		{10, 25, []int{0}, 50, []int{30, 40, 50}}, {10, 25, []int{0}, 25, nil}, {10, 25, []int{0}, 24, []int{10, 20}},
		{10, 25, []int{0}, 9, nil}, {10, 25, []int{0}, 10, []int{10}}, {10, 25, []int{0}, 0, nil},
		// What the way begins with is no mark of it.
		{10, 20, []int{0}, 45, []int{30, 40}}, {10, 20, []int{0}, 20, nil}, {10, 20, []int{0}, 19, []int{10}},
		// From the last mark, where that is behind Now; nothing ahead of it becomes a mark.
		{10, 25, []int{0, 95}, 130, []int{100, 110, 120, 130}}, {10, 25, []int{0, 95}, 99, nil}, {10, 25, []int{0, 95}, 94, nil}, {10, 25, []int{0, 95}, 5, nil},
		{10, 95, []int{0, 95}, 100, []int{100}}, {10, 99, []int{0, 95}, 100, []int{100}}, {10, 120, []int{0, 95}, 121, nil}, {10, 120, []int{0, 95}, 130, []int{130}}, {10, 120, []int{0, 95}, 119, []int{100, 110}},
		// Marks may stand anywhere, and be few.
		{10, 3, []int{0, 1, 2, 7}, 20, []int{10, 20}}, {1000, 5500, []int{0}, 8000, []int{6000, 7000, 8000}}, {1000, 5500, []int{0}, 5000, multiples(1000, 6)[1:]},
		{1, 9000, []int{0}, 8999, multiples(1, 40)[1:]}, {1, 8990, []int{0}, 9001, multiples(1, 9001)[8991:]},
		// Room for one more, and for none.
		{1, 39, nineAndThirty, 45, []int{40}}, {1, 38, nineAndThirty, 45, []int{39}}, {1, 500, nineAndThirty, 501, []int{501}}, {1, 500, nineAndThirty, 499, []int{39}},
		{1, 39, forty, 45, nil}, {1, 500, forty, 3500, nil}, {1, 500, forty, 499, nil},
	} {
		got := r.wantTo(t, r.trail(c.every, c.now, c.marks...), c.step)
		if !slices.Equal(stepsOfMarks(got), append(slices.Clone(c.marks), c.made...)) {
			t.Error("from", c.now, "with marks at", c.marks, "to", c.step, "marks are at", stepsOfMarks(got))
		}
	}
}

func TestTrailOnAndBack(t *testing.T) {
	r := roadOf(compiled(t, endless))
	end := roadOf(endingAt(impl.VmError, 700))
	for _, c := range []struct {
		*road
		now int
		on  map[int]int
		bck map[int]int
	}{
		{r, 0, map[int]int{0: 0, 1: 1, 2999: 2999, 3000: 3000, 3001: 0, 9000: 0, -1: 0, math.MaxInt: 0, math.MinInt: 0},
			map[int]int{0: 0, 1: 0, 3000: 0, 1000000: 0, 1000001: 0, -1: 0, math.MaxInt: 0, math.MinInt: 0}},
		{r, 50, map[int]int{0: 50, 1: 51, 2999: 3049, 3000: 3050, 3001: 50, 9000: 50, -1: 50, -50: 50, math.MaxInt: 50, math.MinInt: 50},
			map[int]int{0: 50, 1: 49, 49: 1, 50: 0, 51: 0, 3000: 0, 3001: 0, 999999: 0, 1000000: 0, 1000001: 50, -1: 50, -2: 50, math.MaxInt: 50, math.MinInt: 50}},
		{r, 8000, map[int]int{0: 8000, 1: 8001, 999: 8999, 1000: 9000, 1001: 9000, 3000: 9000, 3001: 8000, -1: 8000, -8000: 8000},
			map[int]int{0: 8000, 1: 7999, 3000: 5000, 3001: 4999, 7999: 1, 8000: 0, 8001: 0, 1000000: 0, 1000001: 8000, -1: 8000, -1000: 8000}},
		{r, 9000, map[int]int{0: 9000, 1: 9000, 3000: 9000, 3001: 9000, -1: 9000}, map[int]int{0: 9000, 1: 8999, 9000: 0, 1000000: 0, -1: 9000}},
		{end, 699, map[int]int{0: 699, 1: 700, 2: 700, 3000: 700, 3001: 699, -1: 699}, map[int]int{0: 699, 699: 0, -1: 699}},
		{end, 700, map[int]int{0: 700, 1: 700, 3000: 700, 3001: 700, -1: 700}, map[int]int{0: 700, 1: 699, 700: 0, 701: 0, 1000000: 0, 1000001: 700, -1: 700}},
	} {
		for _, every := range []int{50, 1000} {
			trail := wentTo(mustStart(t, c.list, every), c.now)
			for n, want := range c.on {
				got := trailAsked(t, trail, func(trail impl.Trail) impl.Trail { return impl.TrailOn(trail, n) })
				c.wantGone(t, trail, got, want, n >= 0 && n <= 3000)
			}
			for n, want := range c.bck {
				got := trailAsked(t, trail, func(trail impl.Trail) impl.Trail { return impl.TrailBack(trail, n) })
				c.wantGone(t, trail, got, want, n >= 0 && n <= 1000000)
			}
		}
	}
}

func (r *road) wantGone(t *testing.T, before impl.Trail, got impl.Trail, want int, allowed bool) {
	t.Helper()
	r.wantRightAt(t, before, got)
	if got.Now.Steps != want {
		t.Error("from", before.Now.Steps, "it is at", got.Now.Steps, "not", want)
	}
	if allowed {
		before = r.elderTrailTo(before, want)
	}
	wantSameTrail(t, got, before)
}

func TestTrailEnd(t *testing.T) {
	for _, kind := range []int{impl.VmRuns, impl.VmDone, impl.VmError, impl.VmBad, 4, -1, math.MaxInt, math.MinInt} {
		for _, trail := range []impl.Trail{{}, mustStart(t, compiled(t, everyForm), 7), roadOf(compiled(t, everyForm)).trail(7, 300, 0, 7, 14)} {
			trail.Now.Kind = kind
			if got := trailAsked(t, trail, impl.TrailEnd); got != (kind != 0) {
				t.Error("TrailEnd of Kind", kind, got)
			}
		}
	}
}

func TestTrailsThatAreRight(t *testing.T) {
	r := roadOf(compiled(t, endless))
	for _, trail := range []impl.Trail{
		r.trail(1, 0, 0), r.trail(1000, 0, 0), r.trail(50, 9000, 0), r.trail(50, 0, 0, 9000), r.trail(50, 8999, 0, 9000), r.trail(50, 9000, 0, 9000), r.trail(50, 4, 0, 1, 2, 3),
		r.trail(7, 3, 0, 4000, 8000), r.trail(7, 3999, 0, 4000, 8000), r.trail(7, 4000, 0, 4000, 8000), r.trail(7, 7999, 0, 4000, 8000), r.trail(7, 9000, 0, 4000, 8000), r.trail(3, 100, multiples(3, 40)...), r.trail(3, 100, multiples(229, 40)...),
		roadOf(endingAt(impl.VmDone, 5000)).trail(3, 5000, 0), roadOf(endingAt(impl.VmError, 9000)).trail(3, 9000, 0, 10), roadOf(endingAt(impl.VmBad, 2)).trail(3, 2, 0, 1), roadOf([]impl.Proto{{}}).trail(3, 1, 0),
	} {
		if !trailAsked(t, trail, impl.TrailOk) || !elderTrailOk(trail) {
			t.Error("not right: at", trail.Now.Steps, "with marks at", stepsOfMarks(trail))
		}
	}
}

// Lists of none are alike, be they nil or not.
func TestTrailsWithEmptyLists(t *testing.T) {
	trail := roadOf([]impl.Proto{{Code: []impl.Instr{{Op: impl.OpJump}}}}).trail(5, 7, 0, 3)
	trail.Code[0].Ups, trail.Code[0].Names = []impl.Up{}, []impl.Name{}
	for _, m := range []*impl.Vm{&trail.Marks[0], &trail.Marks[1], &trail.Now} {
		m.Heap, m.Funs, m.Out = impl.Heap{Tables: [][]impl.Pair{}, Cells: []impl.Value{}}, []impl.Closure{}, []string{}
		m.Frames[0].Slots, m.Frames[0].Ups, m.Frames[0].Stack = []int{}, []int{}, []impl.Value{}
	}
	r := roadOf(trail.Code)
	for _, step := range []int{0, 2, 3, 6, 7, 8, 30} {
		r.wantTo(t, trail, step)
	}
}

func TestTrailsThatAreNotRight(t *testing.T) {
	t.Parallel()
	list := compiled(t, everyForm)
	r := roadOf(list)
	whole := r.trail(50, 320, 0, 50, 100, 150, 200, 250, 300)
	ended := roadOf(endingAt(impl.VmDone, 60))
	loop := roadOf(compiled(t, endless))
	changed := func(what string, change func(trail *impl.Trail)) {
		t.Helper()
		trail := copyOf(whole)
		change(&trail)
		wantNotRight(t, what, trail)
	}
	wantNotRight(t, "zero value", impl.Trail{})
	for _, every := range []int{0, -1, -50, 1001, math.MaxInt, math.MinInt} {
		changed("Every", func(trail *impl.Trail) { trail.Every = every })
	}
	for _, wrong := range wrongLists() {
		changed("Code", func(trail *impl.Trail) { trail.Code = wrong })
		start := impl.VmStart(wrong)
		wantNotRight(t, "Code", impl.Trail{Code: wrong, Every: 50, Marks: []impl.Vm{start}, Now: start})
		start = impl.Vm{Frames: []impl.Frame{{}}}
		wantNotRight(t, "Code", impl.Trail{Code: wrong, Every: 50, Marks: []impl.Vm{start}, Now: start})
	}
	changed("code of another program", func(trail *impl.Trail) { trail.Code = loop.list })
	changed("no mark", func(trail *impl.Trail) { trail.Marks = nil })
	changed("no first mark", func(trail *impl.Trail) { trail.Marks = trail.Marks[1:] })
	changed("only a later mark", func(trail *impl.Trail) { trail.Marks = trail.Marks[3:4] })
	changed("another start", func(trail *impl.Trail) { trail.Marks[0].Frames[0].Slots[0] = 0 })
	changed("a start with a cell", func(trail *impl.Trail) { trail.Marks[0].Heap.Cells = values(intOf(1)) })
	changed("the start twice", func(trail *impl.Trail) { trail.Marks = append(trail.Marks[:1:1], trail.Marks...) })
	for i := 1; i < 7; i++ {
		changed("two marks turned", func(trail *impl.Trail) { trail.Marks[i], trail.Marks[i-1] = trail.Marks[i-1], trail.Marks[i] })
		changed("a mark twice", func(trail *impl.Trail) { trail.Marks = slices.Insert(trail.Marks, i, copyOf(trail.Marks[i])) })
		changed("a mark of another step", func(trail *impl.Trail) { trail.Marks[i].Steps++ })
		changed("a mark that is another's", func(trail *impl.Trail) {
			steps := trail.Marks[i].Steps
			trail.Marks[i] = copyOf(trail.Marks[i-1])
			trail.Marks[i].Steps = steps
		})
		for _, kind := range []int{impl.VmDone, impl.VmError, impl.VmBad, 4, -1} {
			changed("a mark's Kind", func(trail *impl.Trail) { trail.Marks[i].Kind = kind })
		}
	}
	changed("marks backwards", func(trail *impl.Trail) { slices.Reverse(trail.Marks) })
	for _, steps := range []int{-1, 0, 319, 321, 50, 9000, 9001, math.MaxInt, math.MinInt} {
		changed("Now's Steps", func(trail *impl.Trail) { trail.Now.Steps = steps })
		if steps != 0 {
			changed("all that a start is, but its Steps", func(trail *impl.Trail) { trail.Now, trail.Now.Steps = copyOf(trail.Marks[0]), steps })
		}
	}
	for _, kind := range []int{impl.VmDone, impl.VmError, impl.VmBad, 4, -1} {
		changed("Now's Kind", func(trail *impl.Trail) { trail.Now.Kind = kind })
	}
	changed("Now of no frame", func(trail *impl.Trail) { trail.Now.Frames = nil })
	changed("Now of nothing", func(trail *impl.Trail) { trail.Now = impl.Vm{} })
	for kind := impl.VmDone; kind <= impl.VmBad; kind++ {
		end := roadOf(endingAt(kind, 60))
		wantNotRight(t, "a mark that has ended", end.trail(50, 60, 0, 50, 60))
		wantNotRight(t, "a mark that has ended", end.trail(50, 5, 0, 60))
		wantNotRight(t, "a first mark that has ended", end.trail(50, 60, 60))
		late := end.trail(50, 60, 0, 50)
		late.Now.Steps = 61
		wantNotRight(t, "Now behind the end", late)
		late.Marks = append(late.Marks, late.Now)
		wantNotRight(t, "a mark behind the end", late)
		early := end.trail(50, 60, 0, 50)
		early.Now.Steps = 59
		wantNotRight(t, "an end ahead of itself", early)
	}
	wantNotRight(t, "a start that is bad", impl.Trail{Code: ended.list, Every: 5, Marks: []impl.Vm{{Kind: impl.VmBad}}, Now: impl.Vm{Kind: impl.VmBad}})
	wantNotRight(t, "one mark too many", loop.trail(1, 100, multiples(1, 41)...))
	wantNotRight(t, "one mark too many", loop.trail(1, 0, multiples(200, 41)...))
	wantNotRight(t, "many marks", loop.trail(1, 100, multiples(1, 100)...))
	wantNotRight(t, "Now behind MaxTrail", loop.trail(1000, 9001, 0, 1000))
	wantNotRight(t, "Now behind MaxTrail", loop.trail(1000, 9001, 0, 9000))
	wantNotRight(t, "an end behind MaxTrail", roadOf(endingAt(impl.VmDone, 9001)).trail(1000, 9001, 0, 9000))
	wantNotRight(t, "a mark behind MaxTrail", loop.trail(1000, 50, 0, 9001))
	wantNotRight(t, "a mark and Now behind MaxTrail", loop.trail(1000, 9001, 0, 9001))
	wantNotRight(t, "no start", loop.trail(1000, 9, 3, 6))
	wantNotRight(t, "Now ahead of all marks", loop.trail(1000, 0, 3, 6))
	wantNotRight(t, "Now ahead of all marks", loop.trail(1000, 2, 3, 6))
}

// Whatever is turned in a mark or in Now, it is no longer what the one ahead of it is.
func TestAnythingTurnedInAMark(t *testing.T) {
	t.Parallel()
	guarded := "local t = {} t.a = \"x\" t[1] = print local function f(a, b) local c = function() return t end print(a) b = c() t = b t[2] = b error({}) end local g = function() return f(1) end while true do print(try(g)) end"
	count := 0
	for _, c := range []struct {
		src   string
		steps []int
	}{{guarded, []int{0, 40, 61, 72}}, {guarded, []int{0, 1, 2, 66}}, {endless, []int{0, 1, 5, 4000}}, {"error(5)", []int{0, 1, 2, 3}}} {
		r := roadOf(compiled(t, c.src))
		trail := r.trail(50, c.steps[3], c.steps[0], c.steps[1], c.steps[2])
		if !impl.TrailOk(trail) {
			t.Fatal("not right", c.src)
		}
		spoilt := func(what string) {
			t.Helper()
			count++
			if impl.TrailOk(trail) {
				t.Error("it is right:", what)
			}
			if count%23 == 0 {
				wantNotRight(t, what, trail)
			}
		}
		for i := range trail.Marks {
			turnEach(reflect.ValueOf(&trail.Marks[i]).Elem(), "a mark", spoilt)
		}
		turnEach(reflect.ValueOf(&trail.Now).Elem(), "Now", spoilt)
		if !impl.TrailOk(trail) {
			t.Fatal("not right any more", c.src)
		}
	}
	if count < 500 {
		t.Error("too few are turned:", count)
	}
}

// Whatever is turned in the code, the trail is right only where its machines still are those of the code.
func TestAnythingTurnedInTheCode(t *testing.T) {
	right, wrong := 0, 0
	r := roadOf(compiled(t, "local t = {} local function f(a) t[a] = \"x\" .. a return a end local i = 0 while i < 20 do i = i + f(1) print(try(f)) end return t"))
	trail := r.trail(7, 160, 0, 30, 31, 120)
	turnEach(reflect.ValueOf(&trail.Code).Elem(), "code", func(what string) {
		ok := impl.TrailOk(trail)
		if ok != elderTrailOk(trail) {
			t.Fatal("TrailOk is", ok, "for", what)
		}
		if ok {
			right++
			if strings.HasSuffix(what, "longer") {
				roadOf(trail.Code).wantTo(t, trail, 130)
			}
		} else {
			wrong++
		}
	})
	if right < 20 || wrong < 50 {
		t.Error("too few are right or wrong:", right, wrong)
	}
}
