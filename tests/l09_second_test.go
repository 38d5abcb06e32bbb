package tests

import (
	"fmt"
	"math"
	"slices"
	"strconv"
	"strings"
	"testing"

	"loop.example/g00258/impl"
)

// orNone does something by plain indexes: where what is not there is what the language itself refuses, the zero value is told. A second opinion needs no bounds.
func orNone[T any](do func() T) (told T) {
	defer func() {
		if recover() != nil {
			var none T
			told = none
		}
	}()
	return do()
}

func elderDepths(list []impl.Proto, m impl.Vm) []string {
	var told []string
	for i, f := range m.Frames {
		at := f.Pc
		if i+1 < len(m.Frames) {
			at = f.Pc - 1
		}
		line := orNone(func() int { return list[f.Proto].Code[at].Line })
		told = append([]string{fmt.Sprintf("%d %d", f.Proto, line)}, told...)
	}
	return told
}

var elderWords = map[int]string{impl.KNil: "nil", impl.KTable: "table", impl.KFunc: "function", impl.KHost: "function"}

var elderEscapes = strings.NewReplacer("\\", `\\`, "\"", `\"`, "\n", `\n`)

func elderDeep(h impl.Heap, v impl.Value, most int) string {
	if most > 5 {
		most = 5
	}
	switch v.Kind {
	case impl.KBool:
		return strconv.FormatBool(v.N != 0)
	case impl.KInt:
		return strconv.Itoa(v.N)
	case impl.KText:
		return `"` + elderEscapes.Replace(v.S) + `"`
	}
	if v.Kind != impl.KTable || v.N < 0 || v.N >= len(h.Tables) || most < 1 {
		return elderWords[v.Kind]
	}
	var pairs []string
	for _, pair := range h.Tables[v.N] {
		pairs = append(pairs, "["+elderDeep(h, pair.Key, most-1)+"] = "+elderDeep(h, pair.Val, most-1))
	}
	return "{" + strings.Join(pairs, ", ") + "}"
}

// A naming is what there is to see of a name that can be named.
type naming struct {
	Text  string
	Value impl.Value
	There bool
}

// elderNamings goes from a frame's last name to its first, and leaves out what it has met.
func elderNamings(list []impl.Proto, m impl.Vm, frame int) []naming {
	return orNone(func() []naming {
		f := m.Frames[len(m.Frames)-1-frame]
		var told []naming
		for _, name := range slices.Backward(list[f.Proto].Names) {
			met := slices.ContainsFunc(told, func(n naming) bool { return n.Text == name.Text })
			if met || f.Pc < name.From || f.Pc >= name.To {
				continue
			}
			n := orNone(func() naming { return naming{name.Text, m.Heap.Cells[f.Slots[name.Slot]], true} })
			n.Text = name.Text
			told = append(told, n)
		}
		slices.Reverse(told)
		return told
	})
}

func elderLocals(list []impl.Proto, m impl.Vm, frame int) []string {
	var told []string
	for _, n := range elderNamings(list, m, frame) {
		if n.There {
			told = append(told, n.Text+"="+elderDeep(m.Heap, n.Value, 2))
		}
	}
	return told
}

// A found is what VarOf answers.
type found struct {
	Value impl.Value
	There bool
}

func elderFound(namings []naming, name string) found {
	for _, n := range namings {
		if n.Text == name {
			return found{n.Value, n.There}
		}
	}
	return found{}
}

// A watch is what there is to see of names in the last frame on a road, told by VmRun from the start, step by step.
type watch struct {
	*road
	seen []([]naming)
	last impl.Vm
}

func watchOf(list []impl.Proto) *watch {
	w := &watch{road: roadOf(list), last: impl.VmStart(list)}
	w.seen = append(w.seen, elderNamings(list, w.last, 0))
	return w
}

// end is a step, or that at which the machine ended ahead of it.
func (w *watch) end(step int) int {
	for len(w.seen) <= step && w.last.Kind == impl.VmRuns {
		w.last = impl.VmRun(w.list, w.last, 1)
		w.seen = append(w.seen, elderNamings(w.list, w.last, 0))
	}
	return min(step, len(w.seen)-1)
}

func (w *watch) elderChanged(now int, name string) int {
	for step := w.end(now) - 1; step >= 0; step-- {
		if elderFound(w.seen[step], name) != elderFound(w.seen[step+1], name) {
			return step
		}
	}
	return -1
}

// namesOf are all names of a list, those of VarOf's hosts, and some of none.
func namesOf(list []impl.Proto) []string {
	names := []string{"", "none", "print", "="}
	for _, p := range list {
		for _, name := range p.Names {
			names = append(names, name.Text)
		}
	}
	slices.Sort(names)
	return slices.Compact(names)
}

// A looker is asked or plainLook, which has no look at memory, as that takes long.
type looker func(t *testing.T, list []impl.Proto, m impl.Vm, ask func(list []impl.Proto, m impl.Vm) any) any

func plainLook(t *testing.T, list []impl.Proto, m impl.Vm, ask func(list []impl.Proto, m impl.Vm) any) any {
	return ask(list, m)
}

func depths(list []impl.Proto, m impl.Vm) any { return impl.Depths(list, m) }

func locals(frame int) func(list []impl.Proto, m impl.Vm) any {
	return func(list []impl.Proto, m impl.Vm) any { return impl.Locals(list, m, frame) }
}

func varOf(name string) func(list []impl.Proto, m impl.Vm) any {
	return func(list []impl.Proto, m impl.Vm) any {
		v, ok := impl.VarOf(list, m, name)
		return found{v, ok}
	}
}

func wantTexts(t *testing.T, what string, got any, want []string) {
	t.Helper()
	if !slices.Equal(got.([]string), want) {
		t.Fatalf("%s: %.900q, not %.900q", what, got, want)
	}
}

// wantLook asks of a machine all that there is to see in it: each frame, those that are not there, and each name.
func wantLook(t *testing.T, by looker, list []impl.Proto, m impl.Vm) {
	t.Helper()
	wantTexts(t, "Depths", by(t, list, m, depths), elderDepths(list, m))
	for _, frame := range []int{math.MinInt, -len(m.Frames), -1, len(m.Frames), len(m.Frames) + 1, math.MaxInt} {
		if frame < 0 || frame >= len(m.Frames) {
			wantTexts(t, "Locals of no frame", by(t, list, m, locals(frame)), nil)
		}
	}
	for frame := range m.Frames {
		wantTexts(t, "Locals", by(t, list, m, locals(frame)), elderLocals(list, m, frame))
	}
	namings := elderNamings(list, m, 0)
	for _, name := range namesOf(list) {
		if got, want := by(t, list, m, varOf(name)), elderFound(namings, name); got != want {
			t.Fatalf("VarOf %q: %v, not %v", name, got, want)
		}
	}
}

// deepOf is Deep, of which all is asked that holds for any answer: it is in memory of its own, and nothing is written into what it was asked of.
func deepOf(t *testing.T, h impl.Heap, v impl.Value, most int) string {
	t.Helper()
	given := roomyCopyOf(h)
	v = copyOf(v)
	want := everything(given)
	got := impl.Deep(given, v, most)
	if everything(given) != want {
		t.Fatal("written into a heap")
	}
	wantOwnMemory(t, got, given, v)
	return got
}

func wantDeep(t *testing.T, h impl.Heap, v impl.Value, most int, want string) {
	t.Helper()
	if got := deepOf(t, h, v, most); got != want || elderDeep(h, v, most) != want {
		t.Fatalf("Deep of %s with %d: %.900s, not %.900s", told("", v), most, got, want)
	}
}

// changedOf is Changed of a copy of a trail that has marked room, which must stay as it is.
func changedOf(t *testing.T, trail impl.Trail, name string) int {
	t.Helper()
	return trailAsked(t, trail, func(trail impl.Trail) int { return impl.Changed(trail, name) })
}

// wantChanged asks for Changed of a trail of this road that is right, and for promise 9: behind that step the name has what it has now, and at that step it had not.
func (w *watch) wantChanged(t *testing.T, trail impl.Trail, name string) int {
	t.Helper()
	got, now := impl.Changed(trail, name), trail.Now.Steps
	if want := w.elderChanged(now, name); got != want {
		t.Fatalf("Changed of %q at %d is %d, not %d", name, now, got, want)
	}
	if got >= 0 {
		is, was := plainFound(trail, got+1, name), plainFound(trail, got, name)
		if is != plainFound(trail, now, name) || is == was {
			t.Fatalf("%q at %d is %v, and behind it %v", name, got, was, is)
		}
	}
	return got
}

func plainFound(trail impl.Trail, step int, name string) found {
	v, ok := impl.VarOf(trail.Code, impl.TrailAt(trail, step), name)
	return found{v, ok}
}

// wantUnchanged asks of a trail that is not right that nothing changed in it.
func wantUnchanged(t *testing.T, trail impl.Trail) {
	t.Helper()
	for _, name := range append(namesOf(trail.Code)[:1], "a", "i", "n", "t", "x") {
		if got := changedOf(t, trail, name); got != -1 {
			t.Fatalf("Changed of %q in what is not right: %d", name, got)
		}
	}
}
