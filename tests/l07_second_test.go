package tests

import (
	"math"
	"reflect"
	"slices"
	"strconv"
	"testing"

	"loop.example/g00258/impl"
)

// A road is what a program's machine is at each step, told by VmRun from the start alone. A second opinion needs no marks.
type road struct {
	list []impl.Proto
	kept []impl.Vm // at each twentieth step
}

func roadOf(list []impl.Proto) *road {
	return &road{list: list, kept: []impl.Vm{impl.VmStart(list)}}
}

func (r *road) at(step int) impl.Vm {
	for len(r.kept) <= step/20 {
		r.kept = append(r.kept, impl.VmRun(r.list, r.kept[len(r.kept)-1], 20))
	}
	return impl.VmRun(r.list, r.kept[step/20], step%20)
}

// trail is one that is written by hand: its marks stand at these steps, and it is at this one.
func (r *road) trail(every int, now int, marks ...int) impl.Trail {
	t := impl.Trail{Code: r.list, Every: every, Now: r.at(now)}
	for _, step := range marks {
		t.Marks = append(t.Marks, r.at(step))
	}
	return copyOf(t)
}

func elderTrailOk(t impl.Trail) bool {
	if !rightByBounds(t.Code) || t.Every < 1 || t.Every > 1000 || len(t.Marks) > 40 {
		return false
	}
	r, before := roadOf(t.Code), -1
	for _, m := range t.Marks {
		if m.Steps <= before || before < 0 && m.Steps > 0 || m.Kind != impl.VmRuns || !r.passes(m) {
			return false
		}
		before = m.Steps
	}
	return before >= 0 && r.passes(t.Now)
}

func (r *road) passes(m impl.Vm) bool {
	return m.Steps >= 0 && m.Steps <= 9000 && vmWords(m) == vmWords(r.at(m.Steps))
}

// elderTrailTo is asked of a trail of this road that is right.
func (r *road) elderTrailTo(t impl.Trail, step int) impl.Trail {
	step = max(step, 0)
	for step > 9000 || step-t.Now.Steps > 3000 {
		step = min(step, 9000, t.Now.Steps+3000)
	}
	from := 0
	for _, m := range append(slices.Clone(t.Marks), t.Now) {
		if m.Steps <= step {
			from = max(from, m.Steps)
		}
	}
	want := impl.Trail{Code: t.Code, Every: t.Every, Marks: slices.Clone(t.Marks), Now: r.at(step)}
	for at := from + 1; at <= want.Now.Steps; at++ {
		last := want.Marks[len(want.Marks)-1].Steps
		if at%t.Every == 0 && at > last && len(want.Marks) < 40 && r.at(at).Kind == impl.VmRuns {
			want.Marks = append(want.Marks, r.at(at))
		}
	}
	return want
}

func stepsOfMarks(t impl.Trail) []int {
	var list []int
	for _, m := range t.Marks {
		list = append(list, m.Steps)
	}
	return list
}

// multiples are the steps of the first marks of a trail that goes on from its start.
func multiples(every int, count int) []int {
	var list []int
	for i := range count {
		list = append(list, i*every)
	}
	return list
}

func codeOfTrail(t impl.Trail) string {
	return string(toldAll(nil, reflect.ValueOf(t.Code), false))
}

func wantSameTrail(t *testing.T, got impl.Trail, want impl.Trail) {
	t.Helper()
	if got.Every != want.Every || !slices.EqualFunc(got.Marks, want.Marks, impl.SameVm) {
		t.Fatal("Every", got.Every, "and marks at", stepsOfMarks(got), "are not", want.Every, stepsOfMarks(want))
	}
	if !impl.SameVm(got.Now, want.Now) {
		t.Fatalf("Now\n%.3000s\nis not\n%.3000s", vmWords(got.Now), vmWords(want.Now))
	}
	if codeOfTrail(got) != codeOfTrail(want) {
		t.Fatalf("the code\n%.3000s\nis not\n%.3000s", codeOfTrail(got), codeOfTrail(want))
	}
}

// trailAsked does something with a copy of a trail that has marked room, which must stay as it is; what is told is in memory of its own.
func trailAsked[T any](t *testing.T, trail impl.Trail, ask func(trail impl.Trail) T) T {
	t.Helper()
	given := roomyCopyOf(trail)
	want := everything(given)
	answer := ask(given)
	if everything(given) != want {
		t.Fatalf("written into a trail:\n%.3000s\n%.3000s", want, everything(given))
	}
	wantOwnMemory(t, answer, given)
	return answer
}

// wantTo asks all that holds for a trail of this road that is right, and a step; it tells the trail there.
func (r *road) wantTo(t *testing.T, trail impl.Trail, step int) impl.Trail {
	t.Helper()
	got := trailAsked(t, trail, func(trail impl.Trail) impl.Trail { return impl.TrailTo(trail, step) })
	wantSameTrail(t, got, r.elderTrailTo(trail, step))
	r.wantRightAt(t, trail, got)
	at := trailAsked(t, trail, func(trail impl.Trail) impl.Vm { return impl.TrailAt(trail, step) })
	wantSameVm(t, at, got.Now)
	return got
}

// wantRightAt asks of a trail made of another one what holds wherever it went.
func (r *road) wantRightAt(t *testing.T, before impl.Trail, got impl.Trail) {
	t.Helper()
	if !trailAsked(t, got, impl.TrailOk) {
		t.Fatal("not right behind", got.Now.Steps, "steps, with marks at", stepsOfMarks(got))
	}
	if trailAsked(t, got, impl.TrailEnd) != (got.Now.Kind != impl.VmRuns) {
		t.Fatal("TrailEnd of Kind", got.Now.Kind)
	}
	if !slices.Equal(stepsOfMarks(got)[:len(before.Marks)], stepsOfMarks(before)) {
		t.Fatal("marks at", stepsOfMarks(before), "became", stepsOfMarks(got))
	}
	wantSameVm(t, got.Now, r.at(got.Now.Steps))
}

// wantNotRight asks that a trail is refused, and stays as it is whatever is asked of it.
func wantNotRight(t *testing.T, what string, trail impl.Trail) {
	t.Helper()
	if trailAsked(t, trail, impl.TrailOk) {
		t.Fatal("it is right:", what)
	}
	stays := func(ask func(trail impl.Trail) impl.Trail) {
		t.Helper()
		wantSameTrail(t, trailAsked(t, trail, ask), trail)
	}
	for _, n := range []int{math.MinInt, -1, 0, 5, 3000, math.MaxInt, trail.Now.Steps} {
		stays(func(trail impl.Trail) impl.Trail { return impl.TrailTo(trail, n) })
		stays(func(trail impl.Trail) impl.Trail { return impl.TrailOn(trail, n) })
		stays(func(trail impl.Trail) impl.Trail { return impl.TrailBack(trail, n) })
		wantSameVm(t, trailAsked(t, trail, func(trail impl.Trail) impl.Vm { return impl.TrailAt(trail, n) }), trail.Now)
	}
	if trailAsked(t, trail, impl.TrailEnd) != (trail.Now.Kind != impl.VmRuns) {
		t.Fatal("TrailEnd of Kind", trail.Now.Kind, what)
	}
	wantNoStops(t, trail)
	wantUnchanged(t, trail)
}

// turnEach does something for each thing within v made another: numbers one more and one less, flags, texts, lists one longer and one shorter. Then v is as it was.
func turnEach(v reflect.Value, what string, do func(what string)) {
	turned := func(other reflect.Value, how string) {
		kept := reflect.New(v.Type()).Elem()
		kept.Set(v)
		v.Set(other)
		do(what + how)
		v.Set(kept)
	}
	switch v.Kind() {
	case reflect.Struct:
		for i := range v.NumField() {
			turnEach(v.Field(i), what+"."+v.Type().Field(i).Name, do)
		}
	case reflect.Slice:
		for i := range v.Len() {
			turnEach(v.Index(i), what+" "+strconv.Itoa(i), do)
		}
		turned(reflect.Append(v.Slice3(0, v.Len(), v.Len()), reflect.Zero(v.Type().Elem())), " longer")
		if v.Len() > 0 {
			turned(v.Slice(0, v.Len()-1), " shorter")
		}
	case reflect.String:
		turned(reflect.ValueOf(v.String()+"x"), " longer")
	case reflect.Bool:
		turned(reflect.ValueOf(!v.Bool()), " turned")
	case reflect.Int:
		turned(reflect.ValueOf(int(v.Int())+1), " more")
		turned(reflect.ValueOf(int(v.Int())-1), " less")
	}
}

func compiled(t *testing.T, src string) []impl.Proto {
	t.Helper()
	n, line := impl.Read(src)
	list, ok := impl.Compile(n)
	if line != 0 || !ok {
		t.Fatal("no program, line", line, src)
	}
	return list
}

// endingAt is code whose machine ends so behind just so many steps.
func endingAt(kind int, steps int) []impl.Proto {
	last := map[int][]impl.Instr{
		impl.VmDone:  {{Op: impl.OpPush, V: textOf("end")}, {Op: impl.OpReturn}},
		impl.VmError: {{Op: impl.OpRaise, S: "end"}},
		impl.VmBad:   {{Op: impl.OpPop}},
	}[kind]
	var code []impl.Instr
	for len(code)+len(last) < steps {
		code = append(code, impl.Instr{Op: impl.OpJump, A: len(code) + 1, Line: len(code)})
	}
	return []impl.Proto{{Slots: 1, Code: append(code, last...), Names: []impl.Name{{Text: "a", From: 1, To: 2}}}}
}
