package tests

import (
	"math"
	"slices"
	"strings"
	"sync"
	"testing"

	"loop.example/g00258/impl"
)

// brokenUp begins a new line at one blank in so many.
func (d *dice) brokenUp(src string, one int) string {
	var b strings.Builder
	for _, piece := range strings.SplitAfter(src, " ") {
		if d.below(one) == 0 {
			piece = strings.TrimSuffix(piece, " ") + "\n"
		}
		b.WriteString(piece)
	}
	return b.String()
}

// linedPrograms are the long ones, with few lines, with some and with a line for each word.
func linedPrograms(t *testing.T) [][]impl.Proto {
	var list [][]impl.Proto
	for number, src := range append(longSources(), stopPrograms...) {
		d := dice{seed: uint64(number)}
		for _, one := range []int{1, 3, 15, 10000} {
			list = append(list, compiled(t, d.brokenUp(src, one)))
		}
	}
	return append(list, codeByHand()...)
}

// A stopper goes on a road by steps and by stops.
type stopper struct {
	dice
	*outlook
	trail impl.Trail
	said  map[string]int
	lines []int
}

func stopperOf(seed int, o *outlook, trail impl.Trail, said map[string]int) *stopper {
	return &stopper{dice: dice{seed: uint64(seed)}, outlook: o, trail: trail, said: said, lines: linesOf(o.list)}
}

// someLines are mostly few of the code's own; now and then there are all of them, or others, or none.
func (s *stopper) someLines() []int {
	var lines []int
	switch s.below(10) {
	case 0:
		return nil
	case 1:
		return append(slices.Clone(s.lines), 0, 0)
	case 2:
		lines = []int{0, -1, 1, math.MaxInt, math.MinInt, s.below(30)}[s.below(5):]
	}
	for range 1 + s.below(3) {
		if len(s.lines) > 0 {
			lines = append(lines, s.lines[s.below(len(s.lines))])
		}
	}
	return lines
}

func (s *stopper) most() int {
	switch s.below(4) {
	case 0:
		return 1 + s.below(impl.MaxRun)
	case 1:
		return []int{1, 2, impl.MaxRun - 1, impl.MaxRun}[s.below(4)]
	}
	return 1 + s.below(150)
}

func (s *stopper) stops(t *testing.T, by asker) {
	t.Helper()
	way, lines, most := "", s.someLines(), s.most()
	var got stopped
	switch s.below(8) {
	case 0, 1:
		way, got = "run to", s.wantRunTo(t, by, s.trail, lines, most)
	case 2, 3:
		way, got = "back to", s.wantBackTo(t, by, s.trail, lines)
	case 4:
		way, got = "over", s.wantOver(t, by, s.trail, most)
	case 5:
		way, got = "out", s.wantOut(t, by, s.trail, most)
	case 6:
		s.trail = impl.TrailTo(s.trail, s.below(min(9000, s.trail.Now.Steps+500)+1))
		return
	case 7:
		s.wantHits(t, s.trail, lines, most)
		return
	}
	s.said[way+" "+[]string{"hit", "end", "most"}[got.Said]]++
	s.trail = got.Trail
	if !impl.TrailOk(s.trail) {
		t.Fatal("not right behind", way)
	}
}

func (s *stopper) stopsOften(t *testing.T, times int, watched bool) {
	t.Helper()
	by := asker(plainly)
	if watched {
		by = stopAsked[stopped]
	}
	for range times {
		s.stops(t, by)
	}
}

func wantSaid(t *testing.T, said map[string]int, least int) {
	t.Helper()
	for _, what := range []string{"run to hit", "run to end", "run to most", "back to hit", "back to end", "over hit", "over end", "over most", "out hit", "out end", "out most"} {
		if said[what] < least {
			t.Error("too few times", what, said[what])
		}
	}
}

// Promise 8, from wherever one came to, by stops and by steps.
func TestAnyStops(t *testing.T) {
	t.Parallel()
	said := map[string]int{}
	for number, list := range linedPrograms(t) {
		o := outlookOf(list)
		every := []int{1, 7, 50, 1000}[number%4]
		for seed := range 2 {
			s := stopperOf(number*10+seed, o, mustStart(t, list, every), said)
			s.stopsOften(t, 22, false)
		}
	}
	wantSaid(t, said, 20)
}

func TestStopsOfAnyPrograms(t *testing.T) {
	t.Parallel()
	said := map[string]int{}
	for seed := range 600 {
		d := doer{dice: dice{seed: uint64(seed)}, budget: 10 + seed%90}
		n, line := impl.Read(d.brokenUp(d.program(), []int{1, 2, 4, 9}[seed%4]))
		list, ok := impl.Compile(n)
		if line != 0 || !ok || !impl.CodeOk(list) {
			continue
		}
		s := stopperOf(seed, outlookOf(list), mustStart(t, list, []int{1, 2, 5, 9, 50}[seed%5]), said)
		s.stopsOften(t, 16, seed%10 == 0)
	}
	wantSaid(t, said, 50)
}

// Code that no program gives has any number for a Line, and mostly ends soon, and badly.
func TestStopsOfAnyCode(t *testing.T) {
	t.Parallel()
	said := map[string]int{}
	for seed := range 500 {
		d := maker{dice: dice{seed: uint64(seed)}}
		d.protos, d.slots, d.ups, d.length = 2+d.below(3), 1+d.below(3), d.below(3), 3+d.below(20)
		list := d.code()
		list[0].Code = append(d.beginning(), list[0].Code...)
		for _, p := range list {
			for i := range p.Code {
				p.Code[i].Line = []int{d.below(4), d.below(4), d.below(4), -d.below(3), 1000}[d.below(5)]
			}
		}
		if !rightByBounds(list) {
			continue
		}
		s := stopperOf(seed, outlookOf(list), mustStart(t, list, 1+d.below(9)), said)
		s.stopsOften(t, 12, seed%10 == 0)
	}
	for _, what := range []string{"run to hit", "run to end", "run to most", "back to hit", "back to end", "over hit", "over end", "out end", "out most"} {
		if said[what] < 10 {
			t.Error("too few times", what, said[what])
		}
	}
}

// Promise 13: trails of any make, held against the second opinion.
func TestStopsOfAnyTrails(t *testing.T) {
	t.Parallel()
	lists := linedPrograms(t)
	said := map[string]int{}
	wrong := 0
	for seed := range 700 {
		w := anyTrail(seed, lists)
		if !elderTrailOk(w.trail) {
			wrong++
			if wrong%4 == 0 {
				wantNoStops(t, w.trail)
			}
			continue
		}
		s := stopperOf(seed, outlookOf(w.trail.Code), w.trail, said)
		for range 6 {
			s.trail = w.trail
			s.stops(t, stopAsked[stopped])
		}
	}
	if wrong < 150 {
		t.Error("too few are wrong:", wrong)
	}
	for _, what := range []string{"run to hit", "run to end", "run to most", "back to hit", "back to end", "over hit", "out most"} {
		if said[what] < 20 {
			t.Error("too few times", what, said[what])
		}
	}
}

// Promise 8 at each step of a program: what is behind it, and what ahead.
func TestStopsFromEachStep(t *testing.T) {
	t.Parallel()
	for _, src := range append(slices.Clone(stopPrograms), "local function f()\nreturn 1 end local x = f() f()\nreturn x", "", "while true do end") {
		o := outlookOf(compiled(t, src))
		whole := wentTo(mustStart(t, o.list, 9), 130)
		for now := range o.end(130) + 1 {
			for _, trail := range []impl.Trail{impl.TrailTo(whole, now), o.cameTo(t, 4, now), o.trail(20, now, 0)} {
				for _, line := range append(linesOf(o.list), 0) {
					o.wantRunTo(t, plainly, trail, []int{line}, 130)
					o.wantBackTo(t, plainly, trail, []int{line})
				}
				o.wantRunTo(t, plainly, trail, linesOf(o.list), 1)
				o.wantOver(t, plainly, trail, 130)
				o.wantOut(t, plainly, trail, 130)
			}
		}
	}
}

// Over and Out are told here by RunTo and by what the machines have, from one line to the next.
func TestOverAndOutByLines(t *testing.T) {
	t.Parallel()
	for _, src := range append(slices.Clone(stopPrograms), everyForm) {
		o := outlookOf(compiled(t, src))
		all := linesOf(o.list)
		start := mustStart(t, o.list, 40)
		for now := 0; now < o.end(400); now += 3 {
			trail := impl.TrailTo(start, now)
			on, said := impl.RunTo(trail, all, 1500)
			for said == impl.StopHit && len(on.Now.Frames) > len(trail.Now.Frames) && on.Now.Steps < now+1500 {
				on, said = impl.RunTo(on, all, now+1500-on.Now.Steps)
			}
			if said == impl.StopHit && len(on.Now.Frames) > len(trail.Now.Frames) {
				said = impl.StopMost
			}
			wantStop(t, "Over", o.wantOver(t, plainly, trail, 1500), on.Now.Steps, said)
			for on = impl.TrailOn(trail, 1); on.Now.Kind == impl.VmRuns && len(on.Now.Frames) >= len(trail.Now.Frames) && on.Now.Steps < now+100; {
				on = impl.TrailOn(on, 1)
			}
			if got, _ := impl.Out(trail, 100); !impl.SameVm(got.Now, on.Now) {
				t.Fatal("Out from", now, "is at", got.Now.Steps, "not at", on.Now.Steps)
			}
		}
	}
}

// What is written into an answer is seen in no other one, nor in what was handed in.
func TestStopsAreNewMemory(t *testing.T) {
	o := outlookOf(compiled(t, everyForm))
	given, lines := o.trail(7, 300, 0, 7, 14, 150), []int{5, 7, 9, 11}
	for _, most := range []int{20, 0, impl.MaxRun} {
		for _, ask := range []func(trail impl.Trail, lines []int) stopped{runTo(most), over(most), out(most), backTo} {
			want, a, b := everything(given), ask(given, lines), ask(given, lines)
			kept := everything(b)
			a.Trail.Code[0].Code[0].Op, a.Trail.Code[0].Names[0].Text, a.Trail.Code[1].Ups = 99, "other", nil
			for i := range a.Trail.Marks {
				a.Trail.Marks[i].Frames[0].Pc, a.Trail.Marks[i].Frames, a.Trail.Marks[i].Steps = 99, nil, -1
			}
			a.Trail.Now.Heap.Cells, a.Trail.Now.Out, a.Trail.Now.Kind = nil, append(a.Trail.Now.Out, "other"), 99
			if everything(given) != want || everything(b) != kept {
				t.Error("an answer is written into by what is done to another one")
			}
			first, second := append(b.Trail.Marks, impl.Vm{Steps: 1}), append(b.Trail.Marks, impl.Vm{Steps: 2})
			if len(first) != len(second) || first[len(first)-1].Steps != 1 {
				t.Error("marks have spare room")
			}
		}
	}
	a, b := impl.Hits(given, lines, 500), impl.Hits(given, lines, 500)
	if len(a) < 2 || !slices.Equal(a, b) {
		t.Fatal("Hits", a, b)
	}
	a[0], lines[0] = -1, -1
	if b[0] < 1 {
		t.Error("two answers share memory")
	}
}

// Nothing is kept from call to call, nor between two at the same time.
func TestStopsKeepNothing(t *testing.T) {
	o := outlookOf(compiled(t, everyForm))
	trail, lines := o.trail(7, 300, 0, 7, 14, 150), []int{5, 7, 9}
	want, kept := everything(trail), everything(lines)
	telling := func() string {
		to, a := impl.RunTo(trail, lines, 500)
		back, b := impl.BackTo(to, lines)
		over, c := impl.Over(back, 500)
		out, d := impl.Out(back, 500)
		return impl.DecText(impl.AtLine(trail.Code, trail.Now)) + everything(stopped{to, a}) + everything(stopped{back, b}) + everything(stopped{over, c}) + everything(stopped{out, d}) + everything(impl.Hits(trail, lines, 500))
	}
	told, other := telling(), mustStart(t, compiled(t, calling), 50)
	var all sync.WaitGroup
	for worker := range 8 {
		all.Go(func() {
			for round := range 10 {
				impl.RunTo(other, []int{worker}, 1+round)
				impl.BackTo(impl.Trail{}, lines)
				if telling() != told {
					t.Error("another answer")
				}
			}
		})
	}
	all.Wait()
	if everything(trail) != want || everything(lines) != kept {
		t.Error("written into an argument")
	}
}
