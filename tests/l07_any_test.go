package tests

import (
	"math"
	"slices"
	"sync"
	"testing"

	"loop.example/g00258/impl"
)

// longSources are, in turn, of programs that run on, and that end in each way; tables, cells, functions and frames with Guard are kept in marks.
func longSources() []string {
	return append(slices.Clone(lasting), everyForm, "", "return 5", "error()", "y = 1", "break",
		"local t = {} local i = 0 while true do i = i + 1 t[i % 50] = {} t[i % 50].x = i end",
		"local i = 0 while true do i = i + 1 local x = i end",
		"local i = 0 while i < 700 do i = i + 1 end error({})",
		"local i = 0 while i < 300 do i = i + 1 print(i) end",
		"local function f(n) print(n) if n > 20 then error(n) end return f(n + 1) end while true do print(try(function() f(1) end)) end",
		"local fs = {} local i = 0 while i < 60 do i = i + 1 local n = i fs[i] = function(a) n = n + a return n end end while i > 0 do i = i - 1 print(fs[i + 1](i)) end return fs",
		"local s = \"\" local i = 0 while i < 1200 do i = i + 1 s = s .. \"ab\" end return s")
}

func longPrograms(t *testing.T) [][]impl.Proto {
	var list [][]impl.Proto
	for _, src := range longSources() {
		list = append(list, compiled(t, src))
	}
	return append(list, codeByHand()...)
}

// codeByHand ends in each way.
func codeByHand() [][]impl.Proto {
	var list [][]impl.Proto
	for _, kind := range []int{impl.VmDone, impl.VmError, impl.VmBad} {
		list = append(list, endingAt(kind, 50), endingAt(kind, 351))
	}
	return append(list, []impl.Proto{{}}, []impl.Proto{{Slots: 1, Code: []impl.Instr{{Op: impl.OpLocal}}}})
}

// wanderer goes on a road by any steps.
type wanderer struct {
	dice
	*road
	trail impl.Trail
	went  map[string]int
}

// far is a number that is mostly small, and now and then at a bound, or behind it.
func (w *wanderer) far() int {
	every := w.trail.Every
	switch w.below(12) {
	case 0:
		return []int{0, 1, impl.MaxRun, impl.MaxRun + 1, -1, impl.MaxTrail, 1000000, 1000001, math.MaxInt, math.MinInt}[w.below(10)]
	case 1, 2, 3:
		return every * w.below(45)
	case 4, 5:
		return w.below(impl.MaxRun)
	}
	return w.below(2*every + 60)
}

func (w *wanderer) goes(t *testing.T) {
	t.Helper()
	before, n := w.trail, w.far()
	step, now := n, before.Now.Steps
	switch w.below(4) {
	case 0, 1:
		if w.below(3) == 0 {
			step = max(0, min(w.below(impl.MaxTrail), n))
		}
		w.went["to"]++
		w.trail = impl.TrailTo(before, step)
	case 2:
		w.went["on"]++
		w.trail = impl.TrailOn(before, n)
		step = now
		if n >= 0 && n <= impl.MaxRun {
			step = now + n
		}
	case 3:
		w.went["back"]++
		w.trail = impl.TrailBack(before, n)
		step = now
		if n >= 0 && n <= 1000000 {
			step = now - n
		}
	}
	wantSameTrail(t, w.trail, w.elderTrailTo(before, step))
	if at := w.at(w.trail.Now.Steps); !impl.SameVm(w.trail.Now, at) || !impl.TrailOk(w.trail) {
		t.Fatalf("at %d, from %d to %d with Every %d: %.2000s\nis not\n%.2000s", w.trail.Now.Steps, now, step, before.Every, vmWords(w.trail.Now), vmWords(at))
	}
	if impl.TrailEnd(w.trail) {
		w.went["end"]++
	}
	if w.trail.Now.Steps < now {
		w.went["came back"]++
	}
}

// Promise 7: whichever way one goes, by however many goes, the machine is what it is by as many steps from its start.
func TestAnyWays(t *testing.T) {
	t.Parallel()
	went := map[string]int{}
	for number, list := range longPrograms(t) {
		r := roadOf(list)
		for _, every := range []int{1, 7, 50, 1000} {
			trail := mustStart(t, list, every)
			for seed := range 3 {
				w := wanderer{dice: dice{seed: uint64(number*1000 + every*10 + seed)}, road: r, trail: trail, went: went}
				for range 12 {
					w.goes(t)
				}
			}
		}
	}
	for way, least := range map[string]int{"to": 800, "on": 500, "back": 500, "end": 300, "came back": 300} {
		if went[way] < least {
			t.Error("too few went", way, went[way])
		}
	}
}

// stepsToSee are those at which one looks at a road: the first ones, those near marks and bounds, and near the end.
func stepsToSee(r *road, every int) []int {
	end := r.at(impl.MaxTrail).Steps
	list := []int{0, 1, 2, 3, every - 1, every, every + 1, 2 * every, 39*every - 1, 39 * every, 40*every + 1, 100, 2999, 3000, 3001, end / 2, end - 2, end - 1, end}
	return slices.DeleteFunc(list, func(step int) bool { return step < 0 || step > end })
}

// Promise 7 for each two steps: from the start, from ahead and from behind, in one go and in many.
func TestFromAheadAndFromBehind(t *testing.T) {
	t.Parallel()
	for _, list := range longPrograms(t) {
		r := roadOf(list)
		for _, every := range []int{1, 7, 50, 1000} {
			start := mustStart(t, list, every)
			steps := stepsToSee(r, every)
			for i, from := range steps {
				trail := wentTo(start, from)
				for j, step := range steps {
					if (i+j)%5 != 0 {
						continue
					}
					got := wentTo(trail, step)
					if got.Now.Steps != step || !impl.SameVm(got.Now, r.at(step)) || !impl.TrailOk(got) {
						t.Fatal("from", from, "to", step, "it is at", got.Now.Steps, "with Every", every)
					}
					if step <= from+impl.MaxRun && !impl.SameVm(impl.TrailAt(trail, step), got.Now) {
						t.Fatal("TrailAt", step, "from", from, "with Every", every)
					}
				}
				// In many goes, each one more than the one ahead of it.
				many := start
				for n := 1; many.Now.Steps < from; n = n*3 + 1 {
					many = impl.TrailOn(many, min(n, from-many.Now.Steps, impl.MaxRun))
				}
				wantSameTrail(t, many, trail)
				for n := 1; many.Now.Steps > from/3; n = n*4 + 1 {
					many = impl.TrailBack(many, min(n, many.Now.Steps-from/3))
				}
				if !impl.SameVm(many.Now, r.at(from/3)) || !slices.Equal(stepsOfMarks(many), stepsOfMarks(trail)) {
					t.Fatal("from", from, "back to", many.Now.Steps, "with Every", every)
				}
			}
		}
	}
}

// To go back and on again, or on and back, is to stand still, but for marks on the way.
func TestBackAndOnAgain(t *testing.T) {
	t.Parallel()
	for _, list := range longPrograms(t) {
		r := roadOf(list)
		for _, every := range []int{1, 7, 50, 1000} {
			for _, at := range stepsToSee(r, every)[:6] {
				trail := wentTo(mustStart(t, list, every), at)
				for _, n := range []int{0, 1, 2, every, 40, 2999, 3000} {
					if n <= at {
						wantSameTrail(t, impl.TrailOn(impl.TrailBack(trail, n), n), trail)
					}
					on := impl.TrailOn(trail, n)
					if back := impl.TrailBack(on, on.Now.Steps-at); !impl.SameVm(back.Now, trail.Now) || !slices.EqualFunc(back.Marks, on.Marks, impl.SameVm) {
						t.Fatal("from", at, "on and back by", n, "with Every", every)
					}
				}
			}
		}
	}
}

func TestTrailsOfAnyPrograms(t *testing.T) {
	t.Parallel()
	went := map[string]int{}
	for seed := range 400 {
		d := doer{dice: dice{seed: uint64(seed)}, budget: 10 + seed%90}
		n, line := impl.Read(d.program())
		list, ok := impl.Compile(n)
		if line != 0 || !ok || !impl.CodeOk(list) {
			continue
		}
		w := wanderer{dice: dice{seed: uint64(seed)}, road: roadOf(list), trail: mustStart(t, list, []int{1, 2, 5, 9, 50}[seed%5]), went: went}
		for range 8 {
			w.goes(t)
		}
	}
	if went["end"] < 300 || went["came back"] < 300 {
		t.Error("too few ways", went)
	}
}

// handTrail is one of any marks, that is mostly right.
func (w *wanderer) handTrail() impl.Trail {
	var marks []int
	for at := 0; len(marks) < 1+w.below(44); at += 1 + w.below(30) {
		marks = append(marks, at)
	}
	now := w.below(400)
	if w.below(3) == 0 {
		now = marks[w.below(len(marks))] + w.below(3)
	}
	t := w.road.trail(1+w.below(25), now, marks...)
	// Marks behind the end are not told by a road.
	t.Marks = slices.DeleteFunc(t.Marks, func(m impl.Vm) bool { return m.Kind != impl.VmRuns && w.below(20) > 0 })
	return t
}

// spoil makes one thing of a trail another one, which is not wrong each time.
func (w *wanderer) spoil(t *impl.Trail, other []impl.Proto) {
	at := w.below(max(1, len(t.Marks)))
	m := &t.Now
	if w.below(2) == 0 && len(t.Marks) > 0 {
		m = &t.Marks[at]
	}
	switch w.below(12) {
	case 0:
		t.Every = []int{0, -1, 1000, 1001, math.MinInt, math.MaxInt}[w.below(6)]
	case 1:
		t.Marks = slices.Delete(t.Marks, at, min(at+1, len(t.Marks)))
	case 2:
		slices.Reverse(t.Marks[at:])
	case 3:
		t.Marks = append(t.Marks[:at:at], t.Marks[max(0, at-1):]...)
	case 4:
		m.Steps += []int{1, -1, 100, math.MaxInt, math.MinInt}[w.below(5)]
	case 5:
		m.Kind = w.below(5)
	case 6:
		*m = w.at(w.below(60))
	case 7:
		m.Out = append(m.Out, "more")
	case 8:
		m.Heap.Cells = append(m.Heap.Cells, impl.Value{})
	case 9:
		t.Code = append(slices.Clone(t.Code), impl.Proto{Slots: 200 + w.below(2)})
	case 10:
		t.Code = other
	case 11:
		if len(m.Frames) > 0 {
			m.Frames[0].Pc++
		}
	}
}

// anyTrail is one that was written by hand, and spoilt one time in two.
func anyTrail(seed int, lists [][]impl.Proto) wanderer {
	w := wanderer{dice: dice{seed: uint64(seed)}, road: roadOf(lists[seed*7%len(lists)])}
	w.trail = w.handTrail()
	if w.below(2) == 0 {
		w.spoil(&w.trail, lists[w.below(len(lists))])
	}
	w.trail = copyOf(w.trail)
	return w
}

// Promise 13: trails of any make, held against the second opinion.
func TestAnyTrails(t *testing.T) {
	t.Parallel()
	lists := longPrograms(t)
	right, wrong := 0, 0
	for seed := range 900 {
		w := anyTrail(seed, lists)
		want, step := elderTrailOk(w.trail), w.far()
		if got := trailAsked(t, w.trail, impl.TrailOk); got != want {
			t.Fatal("TrailOk is", got, "at", w.trail.Now.Steps, "with marks at", stepsOfMarks(w.trail))
		}
		if !want {
			wrong++
			if wrong%8 == 0 {
				wantNotRight(t, "any", w.trail)
			}
			continue
		}
		right++
		own := roadOf(w.trail.Code)
		own.wantTo(t, w.trail, w.below(600))
		own.wantTo(t, w.trail, step)
		own.wantGone(t, w.trail, impl.TrailOn(w.trail, 30), own.elderTrailTo(w.trail, w.trail.Now.Steps+30).Now.Steps, true)
		own.wantGone(t, w.trail, impl.TrailBack(w.trail, 30), own.elderTrailTo(w.trail, w.trail.Now.Steps-30).Now.Steps, true)
	}
	if right < 300 || wrong < 200 {
		t.Error("too few are right or wrong:", right, wrong)
	}
}

// beginning makes cells for slots, and values to be taken, so that a machine does not end at once.
func (d *maker) beginning() []impl.Instr {
	var code []impl.Instr
	for slot := range d.slots {
		code = append(code, impl.Instr{Op: impl.OpPush, V: d.value()}, impl.Instr{Op: impl.OpNew, A: slot})
	}
	for range 8 {
		code = append(code, []impl.Instr{{Op: impl.OpPush, V: d.value()}, {Op: impl.OpFunc, A: 1}, {Op: impl.OpTable}}[d.below(3)])
	}
	return code
}

// Trails of code that no program gives: most of it ends soon, and badly.
func TestTrailsOfAnyCode(t *testing.T) {
	t.Parallel()
	var ends [4]int
	for seed := range 800 {
		d := maker{dice: dice{seed: uint64(seed)}}
		d.protos, d.slots, d.ups, d.length = 2+d.below(3), 1+d.below(3), d.below(3), 3+d.below(20)
		list := d.code()
		list[0].Code = append(d.beginning(), list[0].Code...)
		trail, ok := impl.TrailStart(list, 1+d.below(9))
		if ok != rightByBounds(list) {
			t.Fatal("TrailStart is", ok)
		}
		if !ok {
			continue
		}
		r := roadOf(list)
		for _, step := range []int{4, 60, 1, 9, 0, 200} {
			trail = r.wantTo(t, trail, step)
		}
		ends[trail.Now.Kind]++
	}
	if slices.Min(ends[:]) < 10 {
		t.Error("too few of a Kind:", ends)
	}
}

// What is written into an answer is seen in no other one, nor in what was handed in.
func TestTrailsAreNewMemory(t *testing.T) {
	r := roadOf(compiled(t, everyForm))
	given := r.trail(7, 300, 0, 7, 14, 150)
	want := everything(given)
	a, b := impl.TrailTo(given, 320), impl.TrailTo(given, 320)
	kept := everything(b)
	a.Code[0].Code[0].Op, a.Code[0].Names[0].Text, a.Code[1].Ups = 99, "other", nil
	for i := range a.Marks {
		a.Marks[i].Frames[0].Pc, a.Marks[i].Frames, a.Marks[i].Steps = 99, nil, -1
	}
	a.Now.Heap.Cells[0].N, a.Now.Out[0], a.Now.Frames[0].Slots[0] = 99, "other", 99
	if everything(given) != want || everything(b) != kept {
		t.Error("an answer is written into by what is done to another one")
	}
	// Each one that puts a mark behind the same marks has one of its own.
	first, second := append(b.Marks, impl.Vm{Steps: 1}), append(b.Marks, impl.Vm{Steps: 2})
	if len(first) != len(second) || first[len(first)-1].Steps != 1 {
		t.Error("marks have spare room")
	}
}

// Nothing is kept from call to call, nor between two at the same time.
func TestTrailKeepsNothing(t *testing.T) {
	list := compiled(t, everyForm)
	r := roadOf(list)
	trail := r.trail(7, 300, 0, 7, 14, 150)
	want, whole := everything(trail), impl.TrailTo(trail, 400)
	code, marks := vmWords(r.at(400)), stepsOfMarks(whole)
	other := mustStart(t, compiled(t, endless), 50)
	var all sync.WaitGroup
	for worker := range 8 {
		all.Go(func() {
			for round := range 20 {
				impl.TrailOn(other, worker*round)
				impl.TrailOk(impl.Trail{})
				got := impl.TrailTo(trail, 400)
				if vmWords(got.Now) != code || !slices.Equal(stepsOfMarks(got), marks) || !impl.TrailOk(trail) || vmWords(impl.TrailBack(got, 100).Now) != vmWords(trail.Now) {
					t.Error("another answer")
				}
			}
		})
	}
	all.Wait()
	if everything(trail) != want {
		t.Error("written into a trail")
	}
}

// The meaning of a program is that of its trail's end.
func TestMeaningOfATrailsEnd(t *testing.T) {
	ends := 0
	for _, src := range append(slices.Clone(lasting), everyForm, "return 5", "error({})", "y = 1", "local i = 0 while i < 300 do i = i + 1 print(i) end", "local i = 0 while i < 700 do i = i + 1 end return i") {
		n, _ := impl.Read(src)
		trail := wentTo(mustStart(t, compiled(t, src), 50), impl.MaxTrail)
		o := impl.VmOutcome(trail.Now)
		if impl.TrailEnd(trail) != (o.Kind != impl.EndFuel) {
			t.Error("TrailEnd", src)
		}
		if impl.TrailEnd(trail) {
			ends++
			if want := impl.Direct(n, muchFuel); ended(o) != ended(want) {
				t.Errorf("%.900s\nends as %.900s, not %.900s", src, ended(o), ended(want))
			}
		}
	}
	if ends < 5 {
		t.Error("too few end:", ends)
	}
}
