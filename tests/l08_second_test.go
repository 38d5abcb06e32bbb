package tests

import (
	"math"
	"slices"
	"testing"

	"loop.example/g00258/impl"
)

// A sight is what there is to see of a machine by one who wants to stop.
type sight struct {
	runs bool
	at   bool // at a line, this one
	line int
	deep int
}

// sightOf goes by plain indexes: what is not there is what the language itself refuses.
func sightOf(list []impl.Proto, m impl.Vm) (s sight) {
	s.runs, s.deep = m.Kind == impl.VmRuns, len(m.Frames)
	defer func() {
		if recover() != nil {
			s.at, s.line = false, 0
		}
	}()
	f := m.Frames[len(m.Frames)-1]
	code := list[f.Proto].Code
	s.line = code[f.Pc].Line
	s.at = s.runs && (f.Pc == 0 || s.line != code[f.Pc-1].Line)
	return s
}

// told is what AtLine is to tell.
func (s sight) told() int {
	if s.at {
		return s.line
	}
	return 0
}

func (s sight) isOneOf(lines []int) bool {
	for _, line := range lines {
		if s.at && s.line == line {
			return true
		}
	}
	return false
}

// An outlook is what there is to see on a road, told by single steps from the start alone.
type outlook struct {
	*road
	seen []sight
	last impl.Vm
}

func outlookOf(list []impl.Proto) *outlook {
	o := &outlook{road: roadOf(list), last: impl.VmStart(list)}
	o.seen = []sight{sightOf(list, o.last)}
	return o
}

// reaches asks whether the machine takes so many steps.
func (o *outlook) reaches(step int) bool {
	for len(o.seen) <= step && o.last.Kind == impl.VmRuns {
		o.last = impl.VmStep(o.list, o.last)
		o.seen = append(o.seen, sightOf(o.list, o.last))
	}
	return step < len(o.seen)
}

func (o *outlook) end(most int) int {
	o.reaches(most)
	return min(most, len(o.seen)-1)
}

// elderStop is where one stops behind a step, and what is said.
func (o *outlook) elderStop(now int, most int, wanted func(s sight) bool) (int, int) {
	o.reaches(now)
	if !o.seen[now].runs {
		return now, impl.StopEnd
	}
	for step := now + 1; step <= now+most && step <= 9000; step++ {
		o.reaches(step)
		if !o.seen[step].runs {
			return step, impl.StopEnd
		}
		if wanted(o.seen[step]) {
			return step, impl.StopHit
		}
	}
	return min(now+most, 9000), impl.StopMost
}

func (o *outlook) elderBack(now int, lines []int) (int, int) {
	o.reaches(now)
	for step := now - 1; step >= 0; step-- {
		if o.seen[step].isOneOf(lines) {
			return step, impl.StopHit
		}
	}
	return 0, impl.StopEnd
}

func (o *outlook) elderHits(lines []int, most int) []int {
	var steps []int
	for step := 1; step <= most && o.reaches(step); step++ {
		if o.seen[step].isOneOf(lines) {
			steps = append(steps, step)
		}
	}
	return steps
}

// linesOf are those of its instructions.
func linesOf(list []impl.Proto) []int {
	var lines []int
	for _, p := range list {
		for _, in := range p.Code {
			lines = append(lines, in.Line)
		}
	}
	slices.Sort(lines)
	return slices.Compact(lines)
}

type stopped struct {
	Trail impl.Trail
	Said  int
}

// stopAsked does something with copies of a trail and lines that have marked room, which must stay as they are; what is told is in memory of its own.
func stopAsked[T any](t *testing.T, trail impl.Trail, lines []int, ask func(trail impl.Trail, lines []int) T) T {
	t.Helper()
	given := roomyCopyOf(lines)
	want := everything(given)
	answer := trailAsked(t, trail, func(trail impl.Trail) T { return ask(trail, given) })
	if everything(given) != want {
		t.Fatal("written into lines:", want, everything(given))
	}
	wantOwnMemory(t, answer, given)
	return answer
}

func runTo(most int) func(trail impl.Trail, lines []int) stopped {
	return func(trail impl.Trail, lines []int) stopped {
		got, said := impl.RunTo(trail, lines, most)
		return stopped{got, said}
	}
}

func backTo(trail impl.Trail, lines []int) stopped {
	got, said := impl.BackTo(trail, lines)
	return stopped{got, said}
}

func over(most int) func(trail impl.Trail, lines []int) stopped {
	return func(trail impl.Trail, lines []int) stopped {
		got, said := impl.Over(trail, most)
		return stopped{got, said}
	}
}

func out(most int) func(trail impl.Trail, lines []int) stopped {
	return func(trail impl.Trail, lines []int) stopped {
		got, said := impl.Out(trail, most)
		return stopped{got, said}
	}
}

func hits(most int) func(trail impl.Trail, lines []int) []int {
	return func(trail impl.Trail, lines []int) []int { return impl.Hits(trail, lines, most) }
}

// wantStopped asks that a trail of this road went to a step as TrailTo does, and that this was said.
func (o *outlook) wantStopped(t *testing.T, what string, before impl.Trail, got stopped, step int, said int) {
	t.Helper()
	if got.Said != said || got.Trail.Now.Steps != step {
		t.Fatal(what, "from", before.Now.Steps, "is at", got.Trail.Now.Steps, "and says", got.Said, "not at", step, "and", said)
	}
	wantSameTrail(t, got.Trail, o.elderTrailTo(before, step))
}

// wantStayed asks the same of a trail that is to be answered as it is.
func wantStayed(t *testing.T, what string, before impl.Trail, got stopped, said int) {
	t.Helper()
	if got.Said != said {
		t.Fatal(what, "from", before.Now.Steps, "says", got.Said, "not", said)
	}
	wantSameTrail(t, got.Trail, before)
}

// An asker is stopAsked or plainly, which has no look at memory, as that takes long.
type asker func(t *testing.T, trail impl.Trail, lines []int, ask func(trail impl.Trail, lines []int) stopped) stopped

func plainly(t *testing.T, trail impl.Trail, lines []int, ask func(trail impl.Trail, lines []int) stopped) stopped {
	return ask(trail, lines)
}

// wantRunTo and those behind it ask all that holds for a trail of this road that is right, and a most that is so.
func (o *outlook) wantRunTo(t *testing.T, by asker, trail impl.Trail, lines []int, most int) stopped {
	t.Helper()
	got := by(t, trail, lines, runTo(most))
	step, said := o.elderStop(trail.Now.Steps, most, func(s sight) bool { return s.isOneOf(lines) })
	o.wantStopped(t, "RunTo", trail, got, step, said)
	return got
}

func (o *outlook) wantOver(t *testing.T, by asker, trail impl.Trail, most int) stopped {
	t.Helper()
	got := by(t, trail, nil, over(most))
	deep := len(trail.Now.Frames)
	step, said := o.elderStop(trail.Now.Steps, most, func(s sight) bool { return s.at && s.deep <= deep })
	o.wantStopped(t, "Over", trail, got, step, said)
	return got
}

func (o *outlook) wantOut(t *testing.T, by asker, trail impl.Trail, most int) stopped {
	t.Helper()
	got := by(t, trail, nil, out(most))
	deep := len(trail.Now.Frames)
	step, said := o.elderStop(trail.Now.Steps, most, func(s sight) bool { return s.deep < deep })
	o.wantStopped(t, "Out", trail, got, step, said)
	return got
}

func (o *outlook) wantBackTo(t *testing.T, by asker, trail impl.Trail, lines []int) stopped {
	t.Helper()
	got := by(t, trail, lines, backTo)
	step, said := o.elderBack(trail.Now.Steps, lines)
	o.wantStopped(t, "BackTo", trail, got, step, said)
	return got
}

func (o *outlook) wantHits(t *testing.T, trail impl.Trail, lines []int, most int) []int {
	t.Helper()
	got := impl.Hits(trail, lines, most)
	if want := o.elderHits(lines, most); !slices.Equal(got, want) {
		t.Fatal("Hits of", lines, "up to", most, "are", got, "not", want)
	}
	return got
}

// wantNoStops asks of a trail that is not right that it stays as it is, and has no hits.
func wantNoStops(t *testing.T, trail impl.Trail) {
	t.Helper()
	lines := []int{1, 2, 3, 0, -1, trail.Now.Steps}
	for _, most := range []int{math.MinInt, 0, 1, 100, impl.MaxRun, impl.MaxRun + 1} {
		wantStayed(t, "RunTo", trail, stopAsked(t, trail, lines, runTo(most)), impl.StopMost)
		wantStayed(t, "Over", trail, stopAsked(t, trail, lines, over(most)), impl.StopMost)
		wantStayed(t, "Out", trail, stopAsked(t, trail, lines, out(most)), impl.StopMost)
		if got := stopAsked(t, trail, lines, hits(most)); len(got) > 0 {
			t.Fatal("Hits of what is not right:", got)
		}
	}
	wantStayed(t, "BackTo", trail, stopAsked(t, trail, lines, backTo), impl.StopMost)
	wantStayed(t, "BackTo", trail, stopAsked(t, trail, nil, backTo), impl.StopMost)
}
