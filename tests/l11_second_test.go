package tests

import (
	"fmt"
	"slices"
	"strconv"
	"strings"
	"testing"

	"loop.example/g00258/impl"
)

// A launching is all there is to tell of a program that one wants to launch. A second opinion needs no trail, only the program's road.
type launching struct {
	line    int // 0 where it can be launched
	tree    impl.Node
	outlook *outlook
	watch   *watch
	meaning string // how it ends, where it has been asked for
}

// launchings are kept by text, as they are launched again and again.
type launchings map[string]*launching

func (l launchings) of(src string) *launching {
	if l[src] == nil {
		l[src] = launchingOf(src)
	}
	return l[src]
}

func launchingOf(src string) *launching {
	n, line := impl.Read(src)
	if line != 0 {
		return &launching{line: line}
	}
	list := elderCompile(n)
	if len(impl.Show(n)) > 4000 || !rightByBounds(list) {
		return &launching{line: 1}
	}
	l := launchingByHand(list)
	l.tree = n
	return l
}

func launchingByHand(list []impl.Proto) *launching {
	return &launching{outlook: outlookOf(list), watch: watchOf(list)}
}

// ends is asked of a program whose machine has ended.
func (l *launching) ends() string {
	if l.meaning == "" {
		l.meaning = ended(impl.Direct(l.tree, muchFuel))
	}
	return l.meaning
}

// An elder is a session as it is to be. What it launched is none where it launched nothing, or is not right.
type elder struct {
	impl.Session
	right    bool
	launched *launching
	known    launchings
}

func emptyElder(known launchings) *elder {
	return &elder{right: true, known: known}
}

// elderByHand is of a session that was written by hand.
func elderByHand(s impl.Session) *elder {
	e := &elder{Session: s, right: elderSessionOk(s), known: launchings{}}
	if e.right && s.Launched {
		e.launched = launchingByHand(s.Trail.Code)
	}
	return e
}

func elderSessionOk(s impl.Session) bool {
	if len(s.Lines) > 0 {
		row := slices.Clone(s.Lines)
		slices.Sort(row)
		if !slices.Equal(slices.Compact(row), s.Lines) || row[0] < 1 || len(row) > 20 {
			return false
		}
	}
	if s.Launched {
		return elderTrailOk(s.Trail)
	}
	return len(s.Trail.Marks) == 0
}

var worksAtOnce = strings.Fields("launch break clear lines")

// do is what a command makes of the session, and what is answered.
func (e elder) do(c impl.Cmd) (elder, string) {
	if !e.right {
		return e, "bad"
	}
	if elderText(c) == "" {
		return e, "what"
	}
	if !e.Launched && !slices.Contains(worksAtOnce, c.Word) {
		return e, "none"
	}
	switch c.Word {
	case "launch":
		return e.launch(c.Text)
	case "break", "clear":
		return e.withLines(c)
	case "run", "rerun", "over", "out":
		return e.stops(c.Word)
	case "step", "back":
		return e.goes(c)
	}
	return e, e.sees(c)
}

func (e elder) launch(src string) (elder, string) {
	l := e.known.of(src)
	if l.line != 0 {
		return e, fmt.Sprintf("line %d", l.line)
	}
	start := l.outlook.at(0)
	e.Trail = impl.Trail{Code: l.outlook.list, Every: 50, Marks: []impl.Vm{start}, Now: start}
	e.launched, e.Launched = l, true
	return e, "ok"
}

func (e elder) withLines(c impl.Cmd) (elder, string) {
	if c.Word == "clear" {
		e.Lines = nil
		return e, "ok"
	}
	lines := append(slices.Clone(e.Lines), c.N)
	slices.Sort(lines)
	lines = slices.Compact(lines)
	if c.N < 1 || len(lines) > 20 {
		return e, "full"
	}
	e.Lines = lines
	return e, "ok"
}

func (e elder) stops(way string) (elder, string) {
	o, now := e.launched.outlook, e.Trail.Now
	isOne := func(s sight) bool { return s.isOneOf(e.Lines) }
	var step, said int
	switch way {
	case "run":
		step, said = o.elderStop(now.Steps, 3000, isOne)
	case "rerun":
		step, said = o.elderBack(now.Steps, e.Lines)
	case "over":
		step, said = o.elderStop(now.Steps, 3000, func(s sight) bool { return s.at && s.deep <= len(now.Frames) })
	case "out":
		step, said = o.elderStop(now.Steps, 3000, func(s sight) bool { return s.deep < len(now.Frames) })
	}
	e.Trail = o.elderTrailTo(e.Trail, step)
	return e, e.report() + " " + []string{"hit", "end", "most"}[said]
}

func (e elder) goes(c impl.Cmd) (elder, string) {
	if c.N > 3000 {
		return e, "far"
	}
	step := e.Trail.Now.Steps + c.N
	if c.Word == "back" {
		step = e.Trail.Now.Steps - c.N
	}
	e.Trail = e.launched.outlook.elderTrailTo(e.Trail, step)
	return e, e.report()
}

func (e elder) report() string {
	now := e.Trail.Now
	line := 0
	if now.Kind == impl.VmRuns {
		line = sightOf(e.Trail.Code, now).line
	}
	return fmt.Sprintf("step %d line %d %s", now.Steps, line, []string{"runs", "done", "error", "bad"}[now.Kind])
}

func orBar(text string) string {
	if text == "" {
		return "-"
	}
	return text
}

// sees is the answer of a command that only looks.
func (e elder) sees(c impl.Cmd) string {
	code, now := e.Trail.Code, e.Trail.Now
	switch c.Word {
	case "where":
		return orBar(strings.Join(elderDepths(code, now), ";"))
	case "locals":
		return orBar(strings.Join(elderLocals(code, now, c.N), ";"))
	case "show":
		f := elderFound(elderNamings(code, now, 0), c.Text)
		if !f.There {
			return "none"
		}
		return elderDeep(now.Heap, f.Value, 3)
	case "changed":
		return strconv.Itoa(e.launched.watch.elderChanged(now.Steps, c.Text))
	case "lines":
		return orBar(strings.Trim(fmt.Sprint(e.Lines), "[]"))
	case "output":
		all := ""
		for _, line := range now.Out {
			all += ";=" + line
		}
		return orBar(strings.TrimPrefix(all, ";"))
	}
	if now.Kind == impl.VmDone || now.Kind == impl.VmError {
		return e.report() + " " + elderDeep(now.Heap, now.Value, 3)
	}
	return e.report()
}

func wantSameSession(t *testing.T, got impl.Session, want impl.Session) {
	t.Helper()
	if got.Launched != want.Launched || !slices.Equal(got.Lines, want.Lines) {
		t.Fatal("Launched", got.Launched, "and Lines", got.Lines, "are not", want.Launched, want.Lines)
	}
	wantSameTrail(t, got.Trail, want.Trail)
}

// A reply is what SessionDo answers.
type reply struct {
	Session impl.Session
	Answer  string
}

// doAsked is SessionDo of copies with marked room, which must stay as they are; what is answered is in memory of its own.
func doAsked(t *testing.T, s impl.Session, c impl.Cmd) reply {
	t.Helper()
	given, cmd := roomyCopyOf(s), copyOf(c)
	want := everything(given)
	var got reply
	got.Session, got.Answer = impl.SessionDo(given, cmd)
	if everything(given) != want || cmd != c {
		t.Fatalf("written into a session by %v:\n%.3000s\n%.3000s", c, want, everything(given))
	}
	wantOwnMemory(t, got, given, cmd)
	return got
}

// doPlainly has no look at memory, as that takes long.
func doPlainly(t *testing.T, s impl.Session, c impl.Cmd) reply {
	got, answer := impl.SessionDo(s, c)
	return reply{got, answer}
}

// wantOkIs asks for SessionOk of a copy of a session, which must stay as it is.
func wantOkIs(t *testing.T, what string, s impl.Session, want bool) {
	t.Helper()
	given := roomyCopyOf(s)
	told := everything(given)
	if got := impl.SessionOk(given); got != want {
		t.Fatal("SessionOk is", got, "of", what)
	}
	if everything(given) != told {
		t.Fatal("written into a session", what)
	}
}

// wantDo does a command in the session, and goes on from what was answered.
func (e *elder) wantDo(t *testing.T, by func(t *testing.T, s impl.Session, c impl.Cmd) reply, c impl.Cmd) string {
	t.Helper()
	got := by(t, e.Session, c)
	want, answer := e.do(c)
	if got.Answer != answer {
		t.Fatalf("%.200q with %d and %.200q at step %d: %.900q, not %.900q", c.Word, c.N, c.Text, e.Trail.Now.Steps, got.Answer, answer)
	}
	wantSameSession(t, got.Session, want.Session)
	want.Session = got.Session
	*e = want
	return answer
}

// wantOnItsRoad asks for promise 11 of a session that began empty.
func (e *elder) wantOnItsRoad(t *testing.T) {
	t.Helper()
	if !impl.SessionOk(e.Session) {
		t.Fatal("it is not as it should be at step", e.Trail.Now.Steps, "with Lines", e.Lines)
	}
	if !e.Launched {
		return
	}
	now := e.Trail.Now
	if at := e.launched.outlook.at(now.Steps); !impl.SameVm(now, at) {
		t.Fatalf("at step %d: %.2000s\nis not\n%.2000s", now.Steps, vmWords(now), vmWords(at))
	}
	if now.Kind != impl.VmRuns {
		if got := ended(impl.VmOutcome(now)); got != e.launched.ends() {
			t.Fatalf("it ended as %.900s, not %.900s", got, e.launched.ends())
		}
	}
}

// wantTalk goes on in a session by these commands, each with its answer behind it.
func (e *elder) wantTalk(t *testing.T, rows ...string) {
	t.Helper()
	for i := 0; i < len(rows); i += 2 {
		c, ok := impl.ReadCmd(rows[i])
		if !ok {
			t.Fatalf("no command: %q", rows[i])
		}
		if got := e.wantDo(t, doAsked, c); got != rows[i+1] {
			t.Fatalf("%.200q: %.900q, not %.900q", rows[i], got, rows[i+1])
		}
		e.wantOnItsRoad(t)
	}
}

// talk goes on from the empty session.
func talk(t *testing.T, rows ...string) *elder {
	t.Helper()
	e := emptyElder(launchings{})
	e.wantTalk(t, rows...)
	return e
}

// launchedIn is a session behind launch of a program.
func launchedIn(t *testing.T, src string) *elder {
	t.Helper()
	return talk(t, "launch "+src, "ok")
}

// cmdOf is a command of a word that has a number and a text, too, should it want one.
func cmdOf(word string) impl.Cmd {
	return impl.Cmd{Word: word, N: 1, Text: "x"}
}

// cmdsWithoutText are those whose CmdText is empty.
func cmdsWithoutText() []impl.Cmd {
	var list []impl.Cmd
	for _, word := range []string{"", "what", "Run", "run ", " run", "RUN", "runs", "ru", "launch x", "step 1", "lines\n", "none", "bad", "quit", "\x00", "\xff"} {
		list = append(list, cmdOf(word))
	}
	for _, word := range numberWords {
		for _, n := range []int{-1, 1000000, -1 << 63, 1<<63 - 1} {
			list = append(list, impl.Cmd{Word: word, N: n})
		}
	}
	return list
}
