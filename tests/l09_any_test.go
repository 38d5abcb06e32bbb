package tests

import (
	"slices"
	"strings"
	"sync"
	"testing"

	"loop.example/g00258/impl"
)

// named gives code names of any make, about half of which are there at any place.
func (d *maker) named(list []impl.Proto) []impl.Proto {
	for i := range list {
		for range d.below(8) {
			name := nameOf([]string{"a", "b", "x", ""}[d.below(4)], d.number(d.slots), d.number(d.length), d.number(d.length+1))
			if d.below(3) > 0 {
				name.From, name.To = min(name.From, name.To), max(name.From, name.To)
			}
			list[i].Names = append(list[i].Names, name)
		}
	}
	return list
}

// Promises 9 and 13: machines of any make, held against the second opinion.
func TestLookOfAnyMachines(t *testing.T) {
	t.Parallel()
	told, lacking, twice := 0, 0, 0
	for seed := range 4000 {
		d := maker{dice: dice{seed: uint64(seed)}}
		d.protos, d.cells, d.slots, d.ups, d.length = 2+d.below(3), 1+d.below(5), 1+d.below(4), d.below(3), 1+d.below(6)
		list := d.named(d.code())
		m := d.vm()
		wantLook(t, asked[any], list, m)
		for frame, f := range slices.Backward(m.Frames) {
			namings := elderNamings(list, m, len(m.Frames)-1-frame)
			names := 0
			if f.Proto >= 0 && f.Proto < len(list) {
				for _, name := range list[f.Proto].Names {
					if name.From <= f.Pc && f.Pc < name.To {
						names++
					}
				}
			}
			twice += names - len(namings)
			for _, n := range namings {
				if n.There {
					told++
				} else {
					lacking++
				}
			}
		}
	}
	if told < 3000 || lacking < 200 || twice < 500 {
		t.Error("too few names:", told, "told,", lacking, "lacking,", twice, "twice")
	}
}

// wantCellOf asks, where the next instruction is for a slot, that VarOf tells of the name that has this slot what a step brings forth, or puts there.
func wantCellOf(t *testing.T, list []impl.Proto, m impl.Vm, asks *[2]int) {
	t.Helper()
	f := topOf(&m)
	p := list[f.Proto]
	in := p.Code[f.Pc]
	if in.Op != impl.OpLocal && in.Op != impl.OpSetLocal {
		return
	}
	at := slices.IndexFunc(p.Names, func(n impl.Name) bool { return n.Slot == in.A && n.From <= f.Pc && n.To > f.Pc })
	if at < 0 {
		t.Fatal("no name has slot", in.A, "at", f.Pc, codeWords(list))
	}
	name, after := p.Names[at], impl.VmStep(list, m)
	if in.Op == impl.OpLocal {
		asks[0]++
		stack := topOf(&after).Stack
		if v, ok := impl.VarOf(list, m, name.Text); !ok || v != stack[len(stack)-1] {
			t.Fatalf("VarOf %q is %v, and the machine has %v", name.Text, v, stack[len(stack)-1])
		}
		return
	}
	if name.To > f.Pc+1 {
		asks[1]++
		if v, ok := impl.VarOf(list, after, name.Text); !ok || v != f.Stack[len(f.Stack)-1] {
			t.Fatalf("VarOf %q is %v, and was made %v", name.Text, v, f.Stack[len(f.Stack)-1])
		}
	}
}

// Promise 9: what is told of a name is what the program has of it.
func TestLookOfAnyPrograms(t *testing.T) {
	t.Parallel()
	var asks [2]int
	deepest := 0
	look := func(list []impl.Proto, steps int, watched bool) {
		m := impl.VmStart(list)
		for step := 0; step < steps && m.Kind == impl.VmRuns; step++ {
			if step%3 == 0 {
				wantLook(t, plainLook, list, m)
			}
			if watched && step%40 == 0 {
				wantLook(t, asked[any], list, m)
			}
			wantCellOf(t, list, m, &asks)
			deepest = max(deepest, len(m.Frames))
			m = impl.VmStep(list, m)
		}
		wantLook(t, asked[any], list, m)
	}
	for seed := range 1000 {
		d := doer{dice: dice{seed: uint64(seed)}, budget: 10 + seed%90}
		n, line := impl.Read(d.brokenUp(d.program(), []int{1, 2, 4, 9}[seed%4]))
		if list, ok := impl.Compile(n); line == 0 && ok && impl.CodeOk(list) {
			look(list, 250, seed%10 == 0)
		}
	}
	for seed, src := range slices.Concat(lookPrograms, stopPrograms, longSources()) {
		d := dice{seed: uint64(seed)}
		look(compiled(t, d.brokenUp(src, 3)), 250, false)
	}
	if asks[0] < 2500 || asks[1] < 600 || deepest < 20 {
		t.Error("too few names are asked for:", asks, deepest)
	}
}

// changesAnywhere goes to some steps, by a trail of this road, and asks for all names there; it counts those that were changed.
func (w *watch) changesAnywhere(t *testing.T, d *dice, trail impl.Trail, times int, changed *int) {
	t.Helper()
	end := w.end(400)
	for range times {
		trail = impl.TrailTo(trail, d.below(end+2))
		for _, name := range namesOf(w.list) {
			if d.below(3) > 0 {
				continue
			}
			if w.wantChanged(t, trail, name) >= 0 {
				*changed++
			}
		}
	}
}

func TestChangedInAnyPrograms(t *testing.T) {
	t.Parallel()
	changed := 0
	for seed := range 300 {
		d := doer{dice: dice{seed: uint64(seed)}, budget: 10 + seed%90}
		n, line := impl.Read(d.program())
		list, ok := impl.Compile(n)
		if line != 0 || !ok || !impl.CodeOk(list) {
			continue
		}
		watchOf(list).changesAnywhere(t, &d.dice, mustStart(t, list, []int{1, 2, 5, 9, 50, 1000}[seed%6]), 5, &changed)
	}
	for seed, list := range longPrograms(t) {
		watchOf(list).changesAnywhere(t, &dice{seed: uint64(seed)}, mustStart(t, list, []int{1, 7, 50, 1000}[seed%4]), 8, &changed)
	}
	if changed < 400 {
		t.Error("too few were changed:", changed)
	}
}

// Code that no program gives, with names of any make.
func TestChangedInAnyCode(t *testing.T) {
	t.Parallel()
	changed := 0
	for seed := range 500 {
		d := maker{dice: dice{seed: uint64(seed)}}
		d.protos, d.slots, d.ups, d.length = 2+d.below(3), 1+d.below(3), d.below(3), 3+d.below(20)
		list := d.code()
		list[0].Code = append(d.beginning(), list[0].Code...)
		d.length += 8 + 2*d.slots
		list = d.named(list)
		if !rightByBounds(list) {
			continue
		}
		watchOf(list).changesAnywhere(t, &d.dice, mustStart(t, list, 1+d.below(9)), 5, &changed)
	}
	if changed < 300 {
		t.Error("too few were changed:", changed)
	}
}

// Promise 9 at each step of a program, for each name, wherever the trail came from.
func TestChangedAtEachStep(t *testing.T) {
	t.Parallel()
	for _, src := range slices.Concat(lookPrograms, stopPrograms, []string{everyForm}) {
		w := watchOf(compiled(t, src))
		last := wentTo(mustStart(t, w.list, 9), 150)
		for now := range w.end(150) + 1 {
			for _, name := range namesOf(w.list) {
				step := w.wantChanged(t, impl.TrailTo(last, now), name)
				for _, trail := range []impl.Trail{w.trail(4, now, 0), w.trail(1000, now, 0, 1, 2)} {
					if got := impl.Changed(trail, name); got != step {
						t.Fatalf("Changed of %q at %d is %d, not %d", name, now, got, step)
					}
				}
			}
		}
	}
}

// Promise 13: trails of any make, held against the second opinion.
func TestChangedOfAnyTrails(t *testing.T) {
	t.Parallel()
	lists := longPrograms(t)
	changed, right, wrong := 0, 0, 0
	for seed := range 600 {
		w := anyTrail(seed, lists)
		if !elderTrailOk(w.trail) {
			wrong++
			wantUnchanged(t, w.trail)
			continue
		}
		right++
		own := watchOf(w.trail.Code)
		for _, name := range namesOf(w.trail.Code) {
			if own.wantChanged(t, w.trail, name) >= 0 {
				changed++
			}
			changedOf(t, w.trail, name)
		}
		trailAsked(t, w.trail, impl.Report)
	}
	if changed < 200 || right < 200 || wrong < 150 {
		t.Error("too few are right, wrong or changed:", right, wrong, changed)
	}
}

// nestingHeap has few pairs in each table, about half of which have tables in them; some of these are not there.
func (d *dice) nestingHeap() (impl.Heap, []impl.Value) {
	var h impl.Heap
	pool := anyValues()
	value := func() impl.Value {
		if d.below(2) == 0 {
			return tableOf(d.below(6))
		}
		return pool[d.below(len(pool))]
	}
	for range d.below(7) {
		var pairs []impl.Pair
		for range d.below(4) {
			pairs = append(pairs, pairOf(value(), value()))
		}
		h.Tables = append(h.Tables, pairs)
	}
	var list []impl.Value
	for range 4 {
		list = append(list, value())
	}
	return h, list
}

func TestDeepOfAnyHeaps(t *testing.T) {
	t.Parallel()
	longest := 0
	for seed := range 500 {
		d := dice{seed: uint64(seed)}
		h, list := d.nestingHeap()
		for _, v := range list {
			for most := -1; most <= 7; most++ {
				want := elderDeep(h, v, most)
				wantDeep(t, h, v, most, want)
				longest = max(longest, strings.Count(want, "{{{{")+strings.Count(want, "[{[{[{"))
			}
		}
	}
	if longest == 0 {
		t.Error("too few are nested")
	}
}

// What is written into an answer is seen in no other one, nor in what was handed in.
func TestLookIsNewMemory(t *testing.T) {
	list := compiled(t, shadows)
	m := impl.VmRun(list, impl.VmStart(list), 30)
	kept := everything(list) + everything(m)
	for range 2 {
		a, b := impl.Depths(list, m), impl.Depths(list, m)
		c, d := impl.Locals(list, m, 0), impl.Locals(list, m, 0)
		if len(a) < 1 || len(c) < 2 || !slices.Equal(a, b) || !slices.Equal(c, d) {
			t.Fatal("two answers", a, b, c, d)
		}
		a[0], c[0] = "other", "other"
		if b[0] == "other" || d[0] == "other" {
			t.Error("two answers share memory")
		}
		_, _ = append(a, "behind"), append(c, "behind")
	}
	if everything(list)+everything(m) != kept {
		t.Error("written into an argument")
	}
	v, ok := impl.VarOf(list, m, "a")
	if !ok {
		t.Fatal("no a")
	}
	v.S, v.Kind = "other", -1
	if again, _ := impl.VarOf(list, m, "a"); again == v {
		t.Error("VarOf gives what is kept")
	}
}

// Nothing is kept from call to call, nor between two at the same time.
func TestLookKeepsNothing(t *testing.T) {
	list := compiled(t, within)
	w := watchOf(list)
	trail := w.trail(7, 45, 0, 7, 14, 50)
	want := everything(trail)
	telling := func() string {
		v, ok := impl.VarOf(list, trail.Now, "v")
		return everything(impl.Depths(list, trail.Now)) + everything(impl.Locals(list, trail.Now, 1)) + everything(found{v, ok}) + everything(impl.Changed(trail, "n")) + impl.Report(trail) + impl.Deep(deepHeap(), tableOf(2), 5)
	}
	told, other := telling(), mustStart(t, compiled(t, shadows), 50)
	var all sync.WaitGroup
	for range 8 {
		all.Go(func() {
			for round := range 50 {
				on := impl.TrailOn(other, round)
				impl.Changed(on, "a")
				impl.Locals(on.Code, on.Now, 0)
				impl.Deep(impl.Heap{}, textOf("x"), round)
				if telling() != told {
					t.Error("another answer")
				}
			}
		})
	}
	all.Wait()
	if everything(trail) != want {
		t.Error("written into a trail")
	}
}
