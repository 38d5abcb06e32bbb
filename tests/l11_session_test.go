package tests

import (
	"math"
	"reflect"
	"slices"
	"strconv"
	"strings"
	"testing"

	"loop.example/g00258/impl"
)

const rising = "local x = 1\nx = x + 1\nprint(x)\nreturn x"

func TestSessionFromItsBeginning(t *testing.T) {
	talk(t,
		"run", "none", "lines", "-", "launch x = ", "line 1", "break 3", "ok", "break 2", "ok", "break 2", "ok", "break 0", "full", "lines", "2 3",
		"launch "+rising, "ok", "report", "step 0 line 1 runs", "run", "step 2 line 2 runs hit", "show x", "1", "run", "step 6 line 3 runs hit", "show x", "2",
		"changed x", "5", "where", "0 3", "locals 0", "x=2", "locals 7", "-", "rerun", "step 2 line 2 runs hit", "rerun", "step 0 line 1 runs end",
		"step 3", "step 3 line 2 runs", "back 1", "step 2 line 2 runs", "over", "step 6 line 3 runs hit", "output", "-", "clear", "ok",
		"run", "step 12 line 0 done end", "output", "=2", "report", "step 12 line 0 done 2", "step 3001", "far", "out", "step 12 line 0 done end", "show x", "none")
}

// unlaunched are sessions in which nothing was launched; of the last one the trail is odd, but has no marks.
func unlaunched() []impl.Session {
	odd := impl.Trail{Code: []impl.Proto{{Slots: -1, Names: []impl.Name{{Text: "x"}}}}, Every: -3, Marks: []impl.Vm{}, Now: impl.Vm{Out: []string{"odd"}, Steps: -7, Kind: 9, Value: textOf("odd")}}
	return []impl.Session{{}, {Lines: []int{3, 5}}, {Lines: []int{}, Trail: odd}}
}

func TestCommandsAheadOfLaunch(t *testing.T) {
	for number, s := range unlaunched() {
		wantOkIs(t, "unlaunched", s, true)
		for _, word := range allCommands {
			e := elderByHand(s)
			want := "none"
			switch word {
			case "launch", "break", "clear":
				want = "ok"
			case "lines":
				want = []string{"-", "3 5", "-"}[number]
			}
			c := cmdOf(word)
			if word == "launch" {
				c.Text = rising
			}
			if got := e.wantDo(t, doAsked, c); got != want {
				t.Errorf("%s: %q, not %q", word, got, want)
			}
			if !impl.SessionOk(e.Session) || e.Launched != (word == "launch") {
				t.Error("not as it should be behind", word)
			}
		}
		// Neither a step that is too far nor a name counts ahead of it.
		for _, c := range []impl.Cmd{{Word: "step", N: 3001}, {Word: "back", N: 999999}, {Word: "show"}, {Word: "changed"}, {Word: "locals", N: 999999}} {
			if got := elderByHand(s).wantDo(t, doAsked, c); got != "none" {
				t.Errorf("%v: %q", c, got)
			}
		}
	}
}

func TestCommandsBehindLaunch(t *testing.T) {
	want := map[string]string{
		"launch": "line 1", "break": "ok", "clear": "ok", "run": "step 6 line 3 runs hit", "rerun": "step 0 line 1 runs end", "step": "step 3 line 2 runs", "back": "step 1 line 1 runs",
		"over": "step 6 line 3 runs hit", "out": "step 12 line 0 done end", "where": "0 2", "locals": "-", "show": "1", "changed": "1", "lines": "3", "output": "-", "report": "step 2 line 2 runs",
	}
	for _, word := range allCommands {
		e := talk(t, "break 3", "ok", "launch "+rising, "ok", "step 2", "step 2 line 2 runs")
		if got := e.wantDo(t, doAsked, cmdOf(word)); got != want[word] {
			t.Errorf("%s: %q, not %q", word, got, want[word])
		}
	}
}

// A word that has no number counts none, be it within bounds or not; so with texts.
func TestWhatACommandDoesNotTell(t *testing.T) {
	e := talk(t, "break 3", "ok", "launch "+rising, "ok", "step 2", "step 2 line 2 runs")
	for _, word := range allCommands {
		c := impl.Cmd{Word: word, N: 2, Text: "x"}
		plain := impl.Cmd{Word: word, N: c.N, Text: c.Text}
		if !slices.Contains(numberWords, word) {
			plain.N = 0
		}
		if !slices.Contains(textWords, word) {
			plain.Text = ""
		}
		want := doPlainly(t, e.Session, plain)
		for _, n := range []int{-1, 0, 1000000, math.MinInt, math.MaxInt} {
			for _, text := range []string{"", "x = ", "\x00\xff"} {
				other := plain
				if plain.N == 0 {
					other.N = n
				}
				if plain.Text == "" {
					other.Text = text
				}
				got := doAsked(t, e.Session, other)
				if got.Answer != want.Answer {
					t.Fatalf("%v: %q, not %q", other, got.Answer, want.Answer)
				}
				wantSameSession(t, got.Session, want.Session)
			}
		}
	}
}

func TestCommandsWithoutText(t *testing.T) {
	sessions := append(unlaunched(), launchedIn(t, rising).Session, talk(t, "launch "+calling, "ok", "break 2", "ok", "run", "step 14 line 2 runs hit").Session)
	for _, s := range sessions {
		for _, c := range cmdsWithoutText() {
			if got := elderByHand(s).wantDo(t, doAsked, c); got != "what" {
				t.Errorf("%v: %q", c, got)
			}
		}
	}
}

// badSessions are such that one thing of them is not as it should be.
func badSessions(t *testing.T) []impl.Session {
	right := talk(t, "launch "+calling, "ok", "break 2", "ok", "run", "step 14 line 2 runs hit", "run", "step 24 line 2 runs hit").Session
	with := func(change func(s *impl.Session)) impl.Session {
		s := copyOf(right)
		change(&s)
		return s
	}
	return []impl.Session{
		{Lines: []int{0}}, {Lines: []int{5, 5}}, {Launched: true}, {Trail: impl.Trail{Marks: []impl.Vm{{}}}}, {Trail: right.Trail}, {Lines: slices.Repeat([]int{7}, 300)},
		with(func(s *impl.Session) { s.Lines = []int{2, 1} }),
		with(func(s *impl.Session) { s.Launched = false }),
		with(func(s *impl.Session) { s.Trail.Marks = nil }),
		with(func(s *impl.Session) { s.Trail.Now.Steps++ }),
		with(func(s *impl.Session) { s.Trail.Code = nil }),
		with(func(s *impl.Session) { s.Trail.Every = 0 }),
		with(func(s *impl.Session) { s.Trail.Now.Out = append(s.Trail.Now.Out, "more") }),
		with(func(s *impl.Session) { s.Trail.Now = impl.Vm{Steps: math.MaxInt} }),
	}
}

// That a session is not as it should be counts ahead of all else.
func TestBadSessions(t *testing.T) {
	for number, s := range badSessions(t) {
		wantOkIs(t, "bad session "+strconv.Itoa(number), s, false)
		e := elderByHand(s)
		list := append(cmdsWithoutText(), impl.Cmd{Word: "launch", Text: rising}, impl.Cmd{Word: "launch", Text: "x = "}, impl.Cmd{Word: "launch"}, impl.Cmd{Word: "break"}, impl.Cmd{Word: "step", N: 3001}, impl.Cmd{Word: "show", Text: "none"})
		for _, word := range allCommands {
			list = append(list, cmdOf(word))
		}
		for _, c := range list {
			if got := e.wantDo(t, doAsked, c); got != "bad" {
				t.Errorf("%v in %d: %q", c, number, got)
			}
		}
	}
}

func TestSessionOkOfLines(t *testing.T) {
	upTo := func(n int) []int {
		var lines []int
		for i := range n {
			lines = append(lines, 3*i+1)
		}
		return lines
	}
	launched := launchedIn(t, rising).Session
	for _, c := range []struct {
		lines []int
		want  bool
	}{
		{nil, true}, {[]int{}, true}, {[]int{1}, true}, {[]int{0}, false}, {[]int{-1}, false}, {[]int{math.MinInt}, false}, {[]int{math.MaxInt}, true}, {[]int{1000000}, true},
		{[]int{1, 2}, true}, {[]int{2, 1}, false}, {[]int{5, 5}, false}, {[]int{0, 1}, false}, {[]int{-1, 0}, false}, {[]int{-1, 1}, false}, {[]int{1, 2, 2, 3}, false}, {[]int{1, 2, 3, 2}, false}, {[]int{1, 3, 2, 4}, false}, {[]int{math.MaxInt - 1, math.MaxInt}, true}, {[]int{math.MaxInt, math.MinInt}, false},
		{upTo(19), true}, {upTo(20), true}, {upTo(21), false}, {upTo(1000), false}, {append(upTo(19), 3), false}, {append([]int{0}, upTo(19)...), false},
	} {
		wantOkIs(t, "unlaunched", impl.Session{Lines: c.lines}, c.want)
		s := launched
		s.Lines = c.lines
		wantOkIs(t, "launched", s, c.want)
	}
}

func TestSessionOkOfTrails(t *testing.T) {
	wantOkIs(t, "the empty session", impl.Session{}, true)
	wantOkIs(t, "no trail, launched", impl.Session{Launched: true}, false)
	launched := launchedIn(t, calling).Session
	wantOkIs(t, "launched", launched, true)
	launched.Launched = false
	wantOkIs(t, "a mark, not launched", launched, false)
	launched.Trail.Marks = nil
	wantOkIs(t, "no marks, not launched", launched, true)
	launched.Launched = true
	wantOkIs(t, "no marks, launched", launched, false)
	// A trail may have another Every, and code that no program gives.
	o := outlookOf(endingAt(impl.VmBad, 30))
	wantOkIs(t, "by hand", impl.Session{Trail: o.trail(7, 25, 0, 5, 22), Launched: true}, true)
	wantOkIs(t, "by hand, with Marks", impl.Session{Trail: o.trail(7, 25, 0, 5, 22)}, false)
}

// One thing of a session after the other is turned: what is answered then hangs on whether it is as it should be still.
func TestSessionsThatAreSpoilt(t *testing.T) {
	t.Parallel()
	right, wrong := 0, 0
	commands := []impl.Cmd{{Word: "launch", Text: rising}, {Word: "break", N: 3}, {Word: "run"}, {Word: "rerun"}, {Word: "step", N: 9}, {Word: "back", N: 9}, {Word: "over"}, {Word: "out"}, {Word: "where"}, {Word: "locals"}, {Word: "show", Text: "a"}, {Word: "changed", Text: "a"}, {Word: "lines"}, {Word: "output"}, {Word: "report"}, {Word: "clear"}, {Word: "what"}}
	for _, launched := range []bool{true, false} {
		for _, c := range trailsToSpoil {
			o := outlookOf(compiled(t, c.src))
			s := impl.Session{Trail: o.trail(c.every, c.steps[3], c.steps[:3]...), Lines: []int{2, 4, 7}, Launched: launched}
			if !launched {
				s.Trail.Marks = nil
			}
			turnEach(reflect.ValueOf(&s).Elem(), "session", func(what string) {
				e := elderByHand(copyOf(s))
				wantOkIs(t, what, s, e.right)
				if e.right {
					right++
				} else {
					wrong++
				}
				for i, c := range commands {
					if (right+wrong+i)%4 > 0 {
						continue
					}
					again := *e
					again.wantDo(t, doAsked, c)
				}
			})
		}
	}
	if right < 100 || wrong < 500 {
		t.Error("too few are right or wrong:", right, wrong)
	}
}

func manyLocals(count int) string {
	var b strings.Builder
	for i := range count {
		b.WriteString("local a" + strconv.Itoa(i) + "\n")
	}
	return b.String()
}

// sourceOf is a program of just so many bytes.
func sourceOf(bytes int) string {
	return rising + strings.Repeat(" ", bytes-len(rising))
}

func TestLaunchOfNoPrograms(t *testing.T) {
	// Read as a program, but longer than a source may be when it is shown.
	long := strings.Repeat("a=#####1;", 400)
	if len(long) > impl.MaxSource {
		t.Fatal("too long to be read")
	}
	for _, begun := range [][]string{nil, {"break 2", "ok", "break 9", "ok"}, {"launch " + rising, "ok"}, {"break 3", "ok", "launch " + rising, "ok", "run", "step 6 line 3 runs hit"}, {"launch " + calling, "ok", "step 3000", "step 44 line 0 done"}} {
		for src, want := range map[string]string{
			"x = ": "line 1", "x = 1\ny = \nz = 3\nend": "line 3", "\n\n\n?": "line 4", "x = 1\n\"": "line 2", "return 1\nreturn 2 3": "line 2", "end": "line 1", "x": "line 1",
			"local x = 1\nif x then\n": "line 2", "x = 1 --[\n\n\x00": "line 3", "x = 9999999999999": "line 1", "\xff": "line 1",
			strings.Repeat("if 1 then\n", 40) + strings.Repeat("end\n", 40): "line 1",
			manyLocals(201):                   "line 1",
			long:                              "line 1",
			sourceOf(4001):                    "line 1",
			sourceOf(5000):                    "line 1",
			sourceOf(1000000):                 "line 1",
			strings.Repeat("\n", 3999) + "??": "line 1",
			strings.Repeat("\n", 3999) + "?":  "line 4000",
			"local function f()\n" + manyLocals(201) + "end": "line 1",
		} {
			e := talk(t, begun...)
			e.wantTalk(t, "launch "+src, want)
		}
	}
}

func TestLaunch(t *testing.T) {
	for _, src := range []string{"", " ", "\n\n", "--", rising, calling, failing, endless, everyForm, "break", "y = 1", "return {}", manyLocals(200), sourceOf(4000), "local function f()\n" + manyLocals(200) + "end", strings.Repeat("\n", 4000)} {
		e := launchedIn(t, src)
		want, ok := impl.TrailStart(compiled(t, src), 50)
		if !ok || !e.Launched || len(e.Lines) > 0 {
			t.Fatalf("%.200q is not launched", src)
		}
		wantSameTrail(t, e.Trail, want)
	}
	// Lines stay, and of what ran nothing does, be it the same program or another one.
	e := talk(t, "break 7", "ok", "launch "+calling, "ok", "break 2", "ok", "run", "step 14 line 2 runs hit", "run", "step 21 line 7 runs hit")
	e.wantTalk(t, "launch "+calling, "ok", "report", "step 0 line 1 runs", "lines", "2 7", "where", "0 1", "run", "step 14 line 2 runs hit")
	e.wantTalk(t, "launch "+failing, "ok", "report", "step 0 line 1 runs", "lines", "2 7", "run", "step 15 line 2 runs hit", "step 3000", "step 32 line 0 error", "output", "=5;=2")
	e.wantTalk(t, "launch "+failing, "ok", "output", "-", "report", "step 0 line 1 runs", "changed g", "-1")
	e.wantTalk(t, "launch ", "ok", "report", "step 0 line 0 runs", "run", "step 2 line 0 done end", "report", "step 2 line 0 done nil", "launch ", "ok", "report", "step 0 line 0 runs", "lines", "2 7")
	// What can't be launched leaves what runs as it is.
	e = talk(t, "launch "+rising, "ok", "step 5", "step 5 line 2 runs", "launch x = ", "line 1", "report", "step 5 line 2 runs", "show x", "1", "step 1", "step 6 line 3 runs", "launch "+manyLocals(201), "line 1", "show x", "2")
	e.wantTalk(t, "launch return 5", "ok", "report", "step 0 line 1 runs")
}

func TestMarksOfASession(t *testing.T) {
	e := launchedIn(t, endless)
	e.wantTalk(t, "step 120", "step 120 line 1 runs")
	if e.Trail.Every != 50 || !slices.Equal(stepsOfMarks(e.Trail), []int{0, 50, 100}) {
		t.Error("marks at", stepsOfMarks(e.Trail), "with Every", e.Trail.Every)
	}
	e.wantTalk(t, "back 90", "step 30 line 1 runs", "step 3000", "step 3030 line 1 runs")
	if !slices.Equal(stepsOfMarks(e.Trail), multiples(50, 40)) {
		t.Error("marks at", stepsOfMarks(e.Trail))
	}
}

func TestLinesOfASession(t *testing.T) {
	for _, order := range [][]int{{1, 2, 3, 5, 8, 13, 999998, 999999}, {999999, 999998, 13, 8, 5, 3, 2, 1}, {8, 3, 999999, 1, 13, 2, 5, 999998}} {
		for _, begun := range [][]string{nil, {"launch " + rising, "ok"}} {
			e := talk(t, begun...)
			e.wantTalk(t, "break 0", "full", "lines", "-")
			for _, line := range order {
				e.wantTalk(t, "break "+strconv.Itoa(line), "ok", "break "+strconv.Itoa(line), "ok", "break 0", "full")
			}
			e.wantTalk(t, "lines", "1 2 3 5 8 13 999998 999999", "break 5", "ok", "clear", "ok", "lines", "-", "clear", "ok", "lines", "-", "break 5", "ok", "lines", "5")
		}
	}
	// Twenty of them, from either side, and one more at each place.
	for _, down := range []bool{true, false} {
		e := emptyElder(launchings{})
		for i := range 20 {
			line := 10 + 2*i
			if down {
				line = 48 - 2*i
			}
			e.wantTalk(t, "break "+strconv.Itoa(line), "ok")
		}
		const all = "10 12 14 16 18 20 22 24 26 28 30 32 34 36 38 40 42 44 46 48"
		e.wantTalk(t, "lines", all)
		for _, line := range []string{"0", "1", "9", "11", "29", "47", "49", "999999"} {
			e.wantTalk(t, "break "+line, "full", "lines", all)
		}
		for _, line := range strings.Fields(all) {
			e.wantTalk(t, "break "+line, "ok", "lines", all)
		}
		e.wantTalk(t, "launch "+rising, "ok", "break 1", "full", "break 12", "ok", "lines", all, "run", "step 12 line 0 done end", "clear", "ok", "lines", "-", "break 1", "ok", "lines", "1")
	}
}

func TestRunOfASession(t *testing.T) {
	// With no line, and with lines that are never met.
	talk(t, "launch "+rising, "ok", "run", "step 12 line 0 done end", "run", "step 12 line 0 done end")
	talk(t, "launch "+rising, "ok", "break 5", "ok", "break 999999", "ok", "run", "step 12 line 0 done end", "rerun", "step 0 line 1 runs end")
	talk(t, "launch "+endless, "ok", "break 2", "ok", "run", "step 3000 line 1 runs most", "run", "step 6000 line 1 runs most", "run", "step 9000 line 1 runs most", "run", "step 9000 line 1 runs most", "rerun", "step 0 line 1 runs end", "rerun", "step 0 line 1 runs end")
	// One that is met at once: not where it stands, but at the next step.
	talk(t, "launch "+rising, "ok", "break 1", "ok", "break 2", "ok", "step 1", "step 1 line 1 runs", "run", "step 2 line 2 runs hit", "run", "step 12 line 0 done end")
	talk(t, "launch x = 1 while true do end", "ok", "break 1", "ok", "run", "step 2 line 0 error end", "report", `step 2 line 0 error "name"`)
	talk(t, "launch "+endless, "ok", "break 1", "ok", "run", "step 3 line 1 runs hit", "run", "step 6 line 1 runs hit", "clear", "ok", "run", "step 3006 line 1 runs most", "break 1", "ok", "run", "step 3009 line 1 runs hit")
	talk(t, "launch "+rising, "ok", "break 4", "ok", "run", "step 10 line 4 runs hit", "run", "step 12 line 0 done end", "rerun", "step 10 line 4 runs hit", "rerun", "step 0 line 1 runs end")
}

// A line that is just MaxRun steps away is met, one that is a step further is not; back there is no such bound.
func TestRunAsFarAsItGoes(t *testing.T) {
	t.Parallel()
	// endingAt stands in a line of its own at each step.
	l := launchingByHand(endingAt(impl.VmDone, 9100))
	for _, c := range []struct {
		from, line int
		want       string
	}{{0, 3000, "step 3000 line 3000 runs hit"}, {0, 3001, "step 3000 line 3000 runs most"}, {0, 2999, "step 2999 line 2999 runs hit"}, {5999, 8999, "step 8999 line 8999 runs hit"}, {6000, 9000, "step 9000 line 9000 runs hit"}, {6001, 9001, "step 9000 line 9000 runs most"}, {8999, 9000, "step 9000 line 9000 runs hit"}, {9000, 9001, "step 9000 line 9000 runs most"}, {9000, 9000, "step 9000 line 9000 runs most"}} {
		l.cameTo(t, c.from, c.line).wantTalkByHand(t, "run", c.want)
	}
	for _, c := range []struct {
		from, line int
		want       string
	}{{9000, 1, "step 1 line 1 runs hit"}, {9000, 8999, "step 8999 line 8999 runs hit"}, {9000, 9000, "step 0 line 0 runs end"}, {9000, 9001, "step 0 line 0 runs end"}, {1, 1, "step 0 line 0 runs end"}, {2, 1, "step 1 line 1 runs hit"}, {0, 1, "step 0 line 0 runs end"}} {
		l.cameTo(t, c.from, c.line).wantTalkByHand(t, "rerun", c.want)
	}
	// An end that is just as far away, and one that is a step further.
	for steps, want := range map[int]string{2999: "step 2999 line 0 done end", 3000: "step 3000 line 0 done end", 3001: "step 3000 line 0 runs most"} {
		launchingByHand(endingAt(impl.VmDone, steps)).cameTo(t, 0).wantTalkByHand(t, "run", want)
	}
}

// cameTo is a session in which code that no program gives came to a step.
func (l *launching) cameTo(t *testing.T, step int, lines ...int) *elder {
	t.Helper()
	return &elder{Session: impl.Session{Trail: l.outlook.cameTo(t, 50, step), Lines: lines, Launched: true}, right: true, launched: l}
}

// wantTalkByHand is wantTalk for code that no program gives.
func (e *elder) wantTalkByHand(t *testing.T, rows ...string) {
	t.Helper()
	for i := 0; i < len(rows); i += 2 {
		c, ok := impl.ReadCmd(rows[i])
		if got := e.wantDo(t, doAsked, c); !ok || got != rows[i+1] {
			t.Fatalf("%q: %.900q, not %.900q", rows[i], got, rows[i+1])
		}
		if !impl.SessionOk(e.Session) {
			t.Fatal("not as it should be behind", rows[i])
		}
	}
}

func TestRerunOfASession(t *testing.T) {
	e := talk(t, "launch "+calling, "ok", "break 2", "ok", "rerun", "step 0 line 1 runs end", "run", "step 14 line 2 runs hit", "rerun", "step 0 line 1 runs end", "step 3000", "step 44 line 0 done")
	e.wantTalk(t, "rerun", "step 33 line 2 runs hit", "rerun", "step 24 line 2 runs hit", "rerun", "step 14 line 2 runs hit", "rerun", "step 0 line 1 runs end", "rerun", "step 0 line 1 runs end")
	e.wantTalk(t, "break 1", "ok", "step 3000", "step 44 line 0 done", "rerun", "step 42 line 1 runs hit", "rerun", "step 33 line 2 runs hit", "clear", "ok", "rerun", "step 0 line 1 runs end")
	e.wantTalk(t, "break 1", "ok", "rerun", "step 0 line 1 runs end", "step 1", "step 1 line 1 runs", "rerun", "step 0 line 1 runs hit")
	// The start is at a line, too.
	talk(t, "launch "+endless, "ok", "break 1", "ok", "step 3", "step 3 line 1 runs", "rerun", "step 0 line 1 runs hit", "rerun", "step 0 line 1 runs end", "run", "step 3 line 1 runs hit")
}

func TestStepAndBack(t *testing.T) {
	talk(t, "launch "+rising, "ok", "step 0", "step 0 line 1 runs", "back 0", "step 0 line 1 runs", "back 1", "step 0 line 1 runs", "step 1", "step 1 line 1 runs", "back 3000", "step 0 line 1 runs",
		"step 3001", "far", "back 3001", "far", "step 999999", "far", "back 999999", "far", "step 12", "step 12 line 0 done", "step 0", "step 12 line 0 done", "step 1", "step 12 line 0 done", "step 3000", "step 12 line 0 done", "step 3001", "far", "back 3001", "far",
		"back 0", "step 12 line 0 done", "back 1", "step 11 line 4 runs", "step 3000", "step 12 line 0 done", "back 11", "step 1 line 1 runs", "step 10", "step 11 line 4 runs", "step 2", "step 12 line 0 done", "back 3000", "step 0 line 1 runs")
	talk(t, "launch "+endless, "ok", "step 3000", "step 3000 line 1 runs", "step 2999", "step 5999 line 1 runs", "step 3000", "step 8999 line 1 runs", "step 1", "step 9000 line 1 runs", "step 1", "step 9000 line 1 runs", "step 0", "step 9000 line 1 runs", "step 3000", "step 9000 line 1 runs", "step 3001", "far",
		"back 0", "step 9000 line 1 runs", "back 1", "step 8999 line 1 runs", "step 2", "step 9000 line 1 runs", "back 3000", "step 6000 line 1 runs", "back 2999", "step 3001 line 1 runs", "back 3000", "step 1 line 1 runs", "back 3000", "step 0 line 1 runs", "back 3001", "far",
		"step 3000", "step 3000 line 1 runs", "back 3000", "step 0 line 1 runs")
	for _, n := range []string{"0", "1", "2999", "3000"} {
		// Each of them is said, but nothing behind it.
		talk(t, "launch ", "ok", "back "+n, "step 0 line 0 runs", "run", "step 2 line 0 done end", "step "+n, "step 2 line 0 done")
	}
}

func TestOverAndOutOfASession(t *testing.T) {
	talk(t, "launch "+calling, "ok", "over", "step 4 line 5 runs hit", "over", "step 8 line 12 runs hit", "over", "step 42 line 1 runs hit", "over", "step 44 line 0 done end", "over", "step 44 line 0 done end", "out", "step 44 line 0 done end")
	e := talk(t, "launch "+calling, "ok", "break 2", "ok", "run", "step 14 line 2 runs hit", "over", "step 18 line 3 runs hit", "over", "step 21 line 7 runs hit", "out", "step 41 line 12 runs hit", "out", "step 44 line 0 done end")
	e.wantTalk(t, "rerun", "step 33 line 2 runs hit", "out", "step 39 line 7 runs hit", "where", "2 7;0 12", "out", "step 41 line 12 runs hit")
	talk(t, "launch "+calling, "ok", "out", "step 44 line 0 done end")
	// Lines count for neither of them.
	talk(t, "launch "+calling, "ok", "break 6", "ok", "step 8", "step 8 line 12 runs", "over", "step 42 line 1 runs hit", "back 34", "step 8 line 12 runs", "out", "step 44 line 0 done end")
	// An error that is caught, and one that is not.
	e = talk(t, "launch "+failing, "ok", "break 2", "ok", "run", "step 15 line 2 runs hit", "over", "step 20 line 10 runs hit", "back 5", "step 15 line 2 runs", "out", "step 18 line 9 runs hit", "output", "-", "run", "step 29 line 2 runs hit", "output", "=5;=2")
	e.wantTalk(t, "over", "step 32 line 0 error end", "rerun", "step 29 line 2 runs hit", "out", "step 32 line 0 error end", "report", "step 32 line 0 error 5", "out", "step 32 line 0 error end", "over", "step 32 line 0 error end")
	// From the midst of a line, from a frame that loops without end, and where the trail ends.
	e = talk(t, "launch "+callsWithoutEnd, "ok", "over", "step 4 line 5 runs hit", "over", "step 3004 line 2 runs most", "out", "step 6004 line 2 runs most", "over", "step 6006 line 2 runs hit", "out", "step 9000 line 2 runs most", "out", "step 9000 line 2 runs most", "over", "step 9000 line 2 runs most")
	e.wantTalk(t, "back 1", "step 8999 line 2 runs", "over", "step 9000 line 2 runs hit", "where", "1 2;0 5")
}

func TestWhereAndLocals(t *testing.T) {
	e := talk(t, "launch "+calling, "ok", "where", "0 1", "locals 0", "-", "locals 1", "-", "break 2", "ok", "run", "step 14 line 2 runs hit", "where", "1 2;2 6;0 12", "locals 0", "a=1", "locals 1", "a=1", "locals 2", "g=function;f=function", "locals 3", "-", "locals 999999", "-")
	e.wantTalk(t, "run", "step 24 line 2 runs hit", "where", "1 2;2 7;0 12", "locals 1", "a=1;b=2", "step 3000", "step 44 line 0 done", "where", "-", "locals 0", "-")
	// Names that stand twice are told once, and a table within a table to its second level.
	e = talk(t, "break 9", "ok", "break 10", "ok", "break 11", "ok", "break 16", "ok", "launch "+shadows, "ok", "run", "step 18 line 9 runs hit")
	e.wantTalk(t, "locals 0", `b={["k"] = 1};c="in";a={}`, "run", "step 22 line 10 runs hit", "locals 0", `b={["k"] = 1};c="in";a={[1] = {["k"] = 1}}`, "run", "step 24 line 11 runs hit", "locals 0", `c="in";a={[1] = {["k"] = 1}};b=nil`, "run", "step 29 line 16 runs hit", "locals 0", `a=1;b={["k"] = 1};c=2`)
	talk(t, "launch "+recursing, "ok", "break 5", "ok", "run", "step 38 line 5 runs hit", "where", "1 5;1 3;1 3;1 3;0 7", "locals 0", "n=0", "locals 3", "n=3")
	// Semicolons within texts are none between.
	talk(t, `launch local s = "a;b" local t = ";" return s .. t`, "ok", "step 4", "step 4 line 1 runs", "locals 0", `s="a;b";t=";"`)
}

func TestShowAndChanged(t *testing.T) {
	src := "local n = 5\nlocal s = \"a\\\"b\\\\\\n\"\nlocal t = {}\nt.t = t\nt[s] = n\nlocal nothing\nlocal yes = true\nlocal f = print\nreturn t"
	e := talk(t, "launch "+src, "ok", "show n", "none", "break 9", "ok", "run", "step 20 line 9 runs hit")
	e.wantTalk(t, "show n", "5", "show s", `"a\"b\\\n"`, "show nothing", "nil", "show yes", "true", "show f", "function", "show none", "none", "show ", "none", "show print", "none", "show  n", "none", "show n ", "none", "show N", "none")
	e.wantTalk(t, "show t", `{["t"] = {["t"] = {["t"] = table, ["a\"b\\\n"] = 5}, ["a\"b\\\n"] = 5}, ["a\"b\\\n"] = 5}`, "locals 0", `n=5;s="a\"b\\\n";t={["t"] = {["t"] = table, ["a\"b\\\n"] = 5}, ["a\"b\\\n"] = 5};nothing=nil;yes=true;f=function`)
	e.wantTalk(t, "changed n", "1", "changed s", "3", "changed t", "5", "changed nothing", "15", "changed none", "-1", "changed ", "-1", "changed print", "-1", "step 3000", "step 22 line 0 done", "changed n", "21", "show n", "none", "changed none", "-1")
	// In a frame of a call only its own names are there to show.
	e = talk(t, "launch "+calling, "ok", "break 2", "ok", "run", "step 14 line 2 runs hit", "show a", "1", "show b", "none", "show g", "none", "show f", "none", "changed g", "10", "changed a", "10", "run", "step 24 line 2 runs hit", "show a", "2")
	e.wantTalk(t, "launch "+rising, "ok", "changed x", "-1", "step 1", "step 1 line 1 runs", "changed x", "-1", "step 1", "step 2 line 2 runs", "changed x", "1", "step 3", "step 5 line 2 runs", "changed x", "1", "step 1", "step 6 line 3 runs", "changed x", "5")
}

func TestOutputOfASession(t *testing.T) {
	talk(t, "launch ", "ok", "output", "-", "run", "step 2 line 0 done end", "output", "-")
	talk(t, "launch print(1)", "ok", "output", "-", "step 2", "step 2 line 1 runs", "output", "-", "step 1", "step 3 line 1 runs", "output", "=1", "back 1", "step 2 line 1 runs", "output", "-")
	talk(t, `launch print("")`, "ok", "run", "step 6 line 0 done end", "output", "=")
	talk(t, `launch print("") print("")`, "ok", "run", "step 10 line 0 done end", "output", "=;=")
	talk(t, `launch print("-")`, "ok", "run", "step 6 line 0 done end", "output", "=-")
	talk(t, `launch print("=") print(";") print(";=") print("a=b;c=d")`, "ok", "run", "step 18 line 0 done end", "output", "==;=;;=;=;=a=b;c=d")
	talk(t, `launch print("a\nb\"\\") print({}) print(print) print() print(false) print(-7)`, "ok", "run", "step 26 line 0 done end", "output", "=a\nb\"\\;=table;=function;=nil;=false;=-7")
	// What was printed ahead of an error is there still.
	talk(t, "launch print(1)\nprint(2)\nerror(3)", "ok", "run", "step 11 line 0 error end", "output", "=1;=2", "report", "step 11 line 0 error 3")
	e := launchedIn(t, "local i = 0 while true do i = i + 1 print(i) end")
	e.wantTalk(t, "run", "step 2211 line 0 error end", "report", `step 2211 line 0 error "full"`)
	if all := e.sees(impl.Cmd{Word: "output"}); strings.Count(all, ";") != 199 {
		t.Fatalf("%.900q", all)
	}
	e.wantTalk(t, "output", e.sees(impl.Cmd{Word: "output"}))
}

func TestReportOfASession(t *testing.T) {
	for exp, want := range map[string]string{
		"nil": "nil", "true": "true", "false": "false", "0": "0", "-12": "-12", "999999999999": "999999999999", `""`: `""`, `"text"`: `"text"`, `"a\"b\\\n"`: `"a\"b\\\n"`, "{}": "{}", "print": "function", "error": "function", "try": "function", "function() end": "function",
		`t`: `{[1] = {[1] = {[1] = table, ["x"] = "y"}, ["x"] = "y"}, ["x"] = "y"}`,
	} {
		const ahead = "local t = {} t[1] = t t.x = \"y\"\n"
		for way, word := range map[string]string{"return " + exp: "done", "error(" + exp + ")": "error"} {
			e := launchedIn(t, ahead+way)
			e.wantTalk(t, "report", "step 0 line 1 runs", "step 10", "step 10 line 2 runs", "report", "step 10 line 2 runs")
			e.wantDo(t, doAsked, impl.Cmd{Word: "run"})
			if now := e.Trail.Now; now.Kind == impl.VmRuns {
				t.Fatal("it runs on", way)
			}
			e.wantTalk(t, "report", "step "+strconv.Itoa(e.Trail.Now.Steps)+" line 0 "+word+" "+want)
		}
	}
	talk(t, "launch return", "ok", "run", "step 2 line 0 done end", "report", "step 2 line 0 done nil")
	for src, word := range map[string]string{"y = 1": "name", "break": "break", "return 1 // 0": "divide", "return nil + 1": "arith", "nil()": "", "(1)()": "call", "return #1": "length", "return {} .. 1": "concat", "return 1 < {}": "compare", "return (1)[1]": "index", "local function f() return f() end return f()": "deep"} {
		if word == "" {
			talk(t, "launch "+src, "line 1")
			continue
		}
		e := launchedIn(t, src)
		e.wantDo(t, doAsked, impl.Cmd{Word: "run"})
		e.wantTalk(t, "report", "step "+strconv.Itoa(e.Trail.Now.Steps)+` line 0 error "`+word+`"`)
	}
	// A machine that ended bad has no value to tell.
	e := launchingByHand(endingAt(impl.VmBad, 60)).cameTo(t, 10)
	e.wantTalkByHand(t, "report", "step 10 line 10 runs", "run", "step 60 line 0 bad end", "report", "step 60 line 0 bad", "over", "step 60 line 0 bad end", "where", "-", "output", "-", "back 1", "step 59 line 0 runs")
}

// What only looks changes nothing; what is refused leaves all as it was.
func TestLooksAndRefusalsChangeNothing(t *testing.T) {
	known := launchings{}
	for _, src := range []string{calling, failing, shadows, everyForm} {
		e := emptyElder(known)
		e.wantTalk(t, "break 2", "ok", "break 7", "ok", "launch "+src, "ok")
		for range 8 {
			before := e.Session
			kept := everything(before)
			looks := []impl.Cmd{{Word: "where"}, {Word: "locals"}, {Word: "locals", N: 1}, {Word: "show", Text: "a"}, {Word: "changed", Text: "a"}, {Word: "lines"}, {Word: "output"}, {Word: "report"}}
			refused := []impl.Cmd{{Word: "launch", Text: "x = "}, {Word: "launch", Text: manyLocals(201)}, {Word: "break"}, {Word: "step", N: 3001}, {Word: "back", N: 3001}, {Word: "show", Text: "?"}, {Word: "what"}, {Word: "step", N: -1}}
			for _, c := range append(looks, refused...) {
				got := doAsked(t, before, c)
				wantSameSession(t, got.Session, before)
				if everything(before) != kept {
					t.Fatal("written into a session by", c)
				}
			}
			e.wantDo(t, doAsked, impl.Cmd{Word: "step", N: 9})
		}
	}
}
