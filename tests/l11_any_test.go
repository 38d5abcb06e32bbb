package tests

import (
	"math"
	"slices"
	"strings"
	"sync"
	"testing"

	"loop.example/g00258/impl"
)

// A talker goes on in a session by commands of any make.
type talker struct {
	*elder
	dice
	sources []string
	met     map[string]int
}

// wrongSources can't be launched.
func wrongSources() []string {
	return []string{"x = ", "\n\n?", "end", "print(1)\nlocal\n", manyLocals(201), sourceOf(4001), "x"}
}

// sourcesToTalkOf end in each way, or run on; they have few lines, some, or one for each word.
func sourcesToTalkOf() []string {
	var list []string
	for number, src := range slices.Concat(longSources(), stopPrograms, lookPrograms) {
		d := dice{seed: uint64(number)}
		list = append(list, d.brokenUp(src, []int{1, 3, 15, 10000}[number%4]))
	}
	return list
}

func (d *talker) lines() []int {
	if d.launched == nil {
		return nil
	}
	return linesOf(d.launched.outlook.list)
}

func (d *talker) line() int {
	lines := d.lines()
	switch {
	case d.below(8) == 0 || len(lines) == 0:
		return []int{0, 1, 2, 999999, d.below(30), d.below(1000)}[d.below(6)]
	case d.below(8) == 0 && len(d.Lines) > 0:
		return d.Lines[d.below(len(d.Lines))]
	}
	return max(lines[d.below(len(lines))], 0)
}

func (d *talker) steps() int {
	switch d.below(8) {
	case 0:
		return []int{0, 1, 2, impl.MaxRun - 1, impl.MaxRun, impl.MaxRun + 1, 9000, 999999}[d.below(8)]
	case 1, 2:
		return d.below(impl.MaxRun)
	}
	return d.below(80)
}

// name is mostly one that can be named where it stands.
func (d *talker) name() string {
	namings := elderNamings(d.Trail.Code, d.Trail.Now, 0)
	if len(namings) > 0 && d.below(3) > 0 {
		return namings[d.below(len(namings))].Text
	}
	names := []string{"a", "i", "x", "t"}
	if d.launched != nil {
		names = namesOf(d.launched.outlook.list)
	}
	return names[d.below(len(names))]
}

func (d *talker) source() string {
	if d.below(4) == 0 {
		wrong := wrongSources()
		return wrong[d.below(len(wrong))]
	}
	return d.sources[d.below(len(d.sources))]
}

// command is of any word; some that need a program more often than others, so that one gets about.
func (d *talker) command() impl.Cmd {
	if d.below(25) == 0 {
		list := cmdsWithoutText()
		return list[d.below(len(list))]
	}
	if d.below(18) == 0 || !d.Launched && d.below(4) == 0 {
		return impl.Cmd{Word: "launch", Text: d.source()}
	}
	if d.below(25) == 0 {
		return impl.Cmd{Word: "clear"}
	}
	words := strings.Fields("break break break run run rerun rerun step step back back over out where locals show show changed lines output report")
	c := impl.Cmd{Word: words[d.below(len(words))]}
	switch c.Word {
	case "break":
		c.N = d.line()
	case "step", "back":
		c.N = d.steps()
	case "locals":
		c.N = max(0, d.below(len(d.Trail.Now.Frames)+4)-2)
	case "show", "changed":
		c.Text = d.name()
	}
	return c
}

// classOf tells which kind of an answer it is.
func classOf(answer string) string {
	words := strings.Fields(answer)
	for _, class := range []string{"hit", "end", "most", "done", "runs"} {
		if len(words) > 0 && words[len(words)-1] == class {
			return class
		}
	}
	switch {
	case slices.Contains([]string{"none", "what", "bad", "ok", "full", "far", "-", "-1"}, answer):
		return answer
	case strings.HasPrefix(answer, "line "):
		return "line"
	}
	return "told"
}

func (d *talker) talks(t *testing.T, times int, watched int) {
	t.Helper()
	for range times {
		by, c := doPlainly, d.command()
		if d.below(watched) == 0 {
			by = doAsked
		}
		ahead := d.Launched
		before := d.Session
		answer := d.wantDo(t, by, c)
		d.wantOnItsRoad(t)
		if slices.Contains(looking, c.Word) || slices.Contains(refusals, answer) {
			wantSameSession(t, d.Session, before)
		}
		class := c.Word + " " + classOf(answer)
		if !ahead {
			class = "ahead: " + class
		}
		if slices.Contains(allCommands, c.Word) {
			d.met[class]++
		} else {
			d.met["no word: "+answer]++
		}
	}
}

var (
	looking  = strings.Fields("where locals show changed lines output report")
	refusals = strings.Fields("what none full far")
)

func wantMet(t *testing.T, met map[string]int, least int, classes ...string) {
	t.Helper()
	for _, class := range classes {
		if met[class] < least {
			t.Error("too few times", class, met[class])
		}
	}
}

var classesToMeet = []string{
	"launch ok", "launch line", "break ok", "break full", "clear ok", "run hit", "run end", "run most", "rerun hit", "rerun end", "step runs", "step done", "step far", "back runs", "back far",
	"over hit", "over end", "over most", "out hit", "out end", "out most", "where told", "where -", "locals told", "locals -", "show told", "show none", "changed told", "changed -1", "lines told", "lines -", "output told", "output -", "report runs", "report told", "no word: what",
	"ahead: launch ok", "ahead: launch line", "ahead: break ok", "ahead: clear ok", "ahead: lines told", "ahead: run none", "ahead: step none", "ahead: show none", "ahead: report none",
}

// Promise 11: any commands in any order, from the empty session.
func TestAnySessions(t *testing.T) {
	t.Parallel()
	sources := sourcesToTalkOf()
	const groups = 6
	var all [groups]map[string]int
	t.Run("in groups", func(t *testing.T) {
		for group := range groups {
			all[group] = map[string]int{}
			t.Run("", func(t *testing.T) {
				t.Parallel()
				known := launchings{}
				for seed := range 60 {
					d := talker{elder: emptyElder(known), dice: dice{seed: uint64(group*1000 + seed)}, sources: sources, met: all[group]}
					d.talks(t, 30+d.below(60), 12)
				}
			})
		}
	})
	met := map[string]int{}
	for _, some := range all {
		for class, times := range some {
			met[class] += times
		}
	}
	wantMet(t, met, 10, classesToMeet...)
}

// Sessions on programs that were drawn, too.
func TestSessionsOnAnyPrograms(t *testing.T) {
	t.Parallel()
	met := map[string]int{}
	for seed := range 250 {
		d := doer{dice: dice{seed: uint64(seed)}, budget: 10 + seed%90}
		sources := []string{d.brokenUp(d.program(), []int{1, 2, 4, 9}[seed%4]), d.brokenUp(d.program(), 5)}
		talks := talker{elder: emptyElder(launchings{}), dice: d.dice, sources: sources, met: met}
		talks.talks(t, 25, 10)
	}
	wantMet(t, met, 5, "launch ok", "launch line", "run hit", "run end", "rerun hit", "rerun end", "step runs", "step done", "back runs", "over hit", "out hit", "out end", "show told", "changed told", "output told", "report told")
}

// Whichever way one came to a step, all that is answered there is the same.
func TestSameAnswersAtOneStep(t *testing.T) {
	t.Parallel()
	looks := []impl.Cmd{{Word: "where"}, {Word: "locals"}, {Word: "locals", N: 1}, {Word: "show", Text: "a"}, {Word: "show", Text: "i"}, {Word: "changed", Text: "a"}, {Word: "changed", Text: "i"}, {Word: "output"}, {Word: "report"}, {Word: "run"}, {Word: "rerun"}, {Word: "over"}, {Word: "out"}, {Word: "step", N: 40}, {Word: "back", N: 40}}
	known := launchings{}
	for number, src := range sourcesToTalkOf() {
		seen := map[int]string{}
		for seed := range 4 {
			d := talker{elder: emptyElder(known), dice: dice{seed: uint64(number*10 + seed)}, sources: []string{src}, met: map[string]int{}}
			for _, c := range []impl.Cmd{{Word: "break", N: 2}, {Word: "break", N: 5}, {Word: "launch", Text: src}} {
				d.wantDo(t, doPlainly, c)
			}
			for range 12 {
				c := d.command()
				if slices.Contains(worksAtOnce, c.Word) {
					continue
				}
				d.wantDo(t, doPlainly, c)
				step := d.Trail.Now.Steps
				var told []string
				for _, c := range looks {
					_, answer := impl.SessionDo(d.Session, c)
					told = append(told, answer)
				}
				all := strings.Join(told, "|")
				if seen[step] != "" && seen[step] != all {
					t.Fatalf("at step %d: %.900q, and %.900q", step, all, seen[step])
				}
				seen[step] = all
			}
		}
	}
}

// anySession is one that was written by hand: its trail is mostly right, and so are its lines.
func anySession(seed int, lists [][]impl.Proto) (impl.Session, *wanderer) {
	w := anyTrail(seed, lists)
	s := impl.Session{Trail: w.trail, Launched: w.below(8) > 0}
	if w.below(3) == 0 {
		s.Trail.Marks = nil
		s.Launched = w.below(4) == 0
	}
	line := 0
	for range w.below(23) {
		line += 1 + w.below(3)
		if w.below(50) == 0 {
			line += []int{-1, -2, -3, math.MinInt, -9}[w.below(5)]
		}
		s.Lines = append(s.Lines, line)
	}
	return copyOf(s), &w
}

// Promise 13: sessions of any make.
func TestSessionsByHand(t *testing.T) {
	t.Parallel()
	lists := longPrograms(t)
	right, wrong, met := 0, 0, map[string]int{}
	for seed := range 500 {
		s, w := anySession(seed, lists)
		d := talker{elder: elderByHand(s), dice: w.dice, sources: []string{rising, calling}, met: met}
		wantOkIs(t, "any session", s, d.right)
		if d.right {
			right++
		} else {
			wrong++
		}
		for range 4 {
			answer := d.wantDo(t, doAsked, d.command())
			met[classOf(answer)]++
			if d.right != impl.SessionOk(d.Session) {
				t.Fatal("it became another one behind", answer)
			}
		}
	}
	if right < 150 || wrong < 150 {
		t.Error("too few are right or wrong:", right, wrong)
	}
	wantMet(t, met, 15, "bad", "what", "none", "ok", "hit", "end", "told", "runs")
}

// Code that no program gives, with names of any make.
func TestSessionsOnAnyCode(t *testing.T) {
	t.Parallel()
	met := map[string]int{}
	for seed := range 200 {
		d := maker{dice: dice{seed: uint64(seed)}}
		d.protos, d.slots, d.ups, d.length = 2+d.below(3), 1+d.below(3), d.below(3), 3+d.below(20)
		list := d.code()
		list[0].Code = append(d.beginning(), list[0].Code...)
		d.length += 8 + 2*d.slots
		list = d.named(list)
		trail, ok := impl.TrailStart(list, 1+d.below(9))
		if !ok {
			continue
		}
		talks := talker{elder: elderByHand(impl.Session{Trail: trail, Launched: true}), dice: d.dice, sources: []string{"x"}, met: met}
		for range 15 {
			c := talks.command()
			met[c.Word+" "+classOf(talks.wantDo(t, doPlainly, c))]++
		}
	}
	wantMet(t, met, 10, "run end", "rerun end", "step runs", "back runs", "over hit", "over end", "out end", "show told", "show none", "changed told", "changed -1", "where told", "where -", "report runs", "report told")
	wantMet(t, met, 3, "locals told")
}

// What is written into an answer is seen in no other one, nor in what was handed in.
func TestSessionsAreNewMemory(t *testing.T) {
	e := talk(t, "launch "+within, "ok", "break 5", "ok", "break 14", "ok", "run", "step 20 line 5 runs hit", "step 60", "step 51 line 0 done")
	e.wantTalk(t, "rerun", "step 44 line 14 runs hit")
	s := e.Session
	kept := everything(s)
	for _, word := range append(slices.Clone(allCommands), "what") {
		c := impl.Cmd{Word: word, N: 3, Text: "n"}
		first, second := doAsked(t, s, c), doAsked(t, s, c)
		told := everything(second)
		spoilSession(&first.Session)
		if everything(second) != told || everything(s) != kept {
			t.Error("two answers share memory:", word)
		}
	}
}

// spoilSession writes into all lists of a session, and behind them.
func spoilSession(s *impl.Session) {
	_ = append(s.Lines, 77)
	for i := range s.Lines {
		s.Lines[i] = 77
	}
	_ = append(s.Trail.Marks, impl.Vm{Steps: 77})
	for _, m := range append(s.Trail.Marks[:len(s.Trail.Marks):len(s.Trail.Marks)], s.Trail.Now) {
		_, _ = append(m.Out, "spoilt"), append(m.Heap.Cells, intOf(77))
		for i := range m.Heap.Cells {
			m.Heap.Cells[i] = textOf("spoilt")
		}
		for i := range m.Frames {
			m.Frames[i] = impl.Frame{Proto: 77}
		}
		for i := range m.Out {
			m.Out[i] = "spoilt"
		}
	}
	for i := range s.Trail.Code {
		s.Trail.Code[i] = impl.Proto{Slots: 77}
	}
}

// Nothing is kept from call to call, nor between two at the same time.
func TestSessionsKeepNothing(t *testing.T) {
	s := talk(t, "launch "+calling, "ok", "break 2", "ok", "run", "step 14 line 2 runs hit").Session
	kept := everything(s)
	telling := func() string {
		told := ""
		for _, word := range allCommands {
			on, answer := impl.SessionDo(s, impl.Cmd{Word: word, N: 2, Text: "a"})
			_, report := impl.SessionDo(on, impl.Cmd{Word: "report"})
			told += answer + "|" + report + "|"
		}
		return told
	}
	want := telling()
	var all sync.WaitGroup
	for range 8 {
		all.Go(func() {
			for round := range 20 {
				other, _ := impl.SessionDo(impl.Session{}, impl.Cmd{Word: "launch", Text: failing})
				other, _ = impl.SessionDo(other, impl.Cmd{Word: "break", N: round})
				impl.SessionDo(other, impl.Cmd{Word: "run"})
				if telling() != want {
					t.Error("another answer")
				}
			}
		})
	}
	all.Wait()
	if everything(s) != kept {
		t.Error("written into a session")
	}
}
