package tests

import (
	"slices"
	"strings"
	"sync"
	"testing"

	"loop.example/g00258/impl"
)

// body is mostly a command's text, and now and then no command.
func (d *talker) body() string {
	switch d.below(12) {
	case 0:
		return d.bytesOf(d.below(40))
	case 1:
		list := noCommands()
		return list[d.below(len(list))]
	}
	return impl.CmdText(d.command())
}

// bodiesOf draws what one may say on the way from the session, each drawn in the one that those ahead of it make.
func (d *talker) bodiesOf(count int) []string {
	var bodies []string
	say := func(some ...string) {
		for _, body := range some {
			*d.elder, _ = d.obeys(body)
		}
		bodies = append(bodies, some...)
	}
	for range count {
		if d.rarely(40) {
			say("launch "+outputOf(4990+d.below(20)), "run", "output")
		} else {
			say(d.body())
		}
	}
	return bodies
}

// behindMessages is what stands behind the last message: mostly nothing, or its beginning, or bytes of which none could be made.
func (d *dice) behindMessages() string {
	switch d.below(6) {
	case 0:
		message := saying(d.bytesOf(d.below(30)))
		return message[:d.below(len(message))]
	case 1:
		return likeMessages[d.below(len(likeMessages))]
	case 2:
		return badBytes[d.below(len(badBytes))] + saying("clear")
	case 3:
		return d.bytesOf(d.below(10)) + saying("run")
	}
	return ""
}

// cut is a text in pieces, empty ones among them.
func (d *dice) cut(s string, longest int) []string {
	var pieces []string
	for s != "" {
		end := min(d.below(longest+1), len(s))
		pieces = append(pieces, s[:end])
		s = s[end:]
	}
	return append(pieces, "")
}

// countAnswers counts what was answered, and how.
func countAnswers(met map[string]int, bodies []string, d *elderDesk) {
	for _, body := range bodies {
		met[classOf(body)]++
		switch {
		case body == "long":
			met["long"]++
		case len(body) > 4980:
			met["nearly long"]++
		}
	}
	switch {
	case d.closed:
		met["closed"]++
	case d.buf != "":
		met["begun"]++
	default:
		met["all taken"]++
	}
}

var answersToMeet = []string{"what", "none", "ok", "full", "far", "-", "-1", "hit", "end", "most", "runs", "done", "told", "line", "long", "nearly long", "begun", "all taken"}

// Promise 12: the bytes of a desk that began empty, at once and in any pieces.
func TestAnyDesks(t *testing.T) {
	t.Parallel()
	sources := sourcesToTalkOf()
	const groups = 6
	var all [groups]map[string]int
	t.Run("in groups", func(t *testing.T) {
		for group := range groups {
			all[group] = map[string]int{}
			t.Run("", func(t *testing.T) {
				t.Parallel()
				known := launchings{}
				for seed := range 30 {
					d := talker{elder: emptyElder(known), dice: dice{seed: uint64(group*1000 + seed)}, sources: sources}
					d.wantDesk(t, known, all[group], seed%5 == 0)
				}
			})
		}
	})
	met := map[string]int{}
	for _, some := range all {
		for class, times := range some {
			met[class] += times
		}
	}
	wantMet(t, met, 10, append(answersToMeet, "bad", "closed")...)
}

// wantDesk feeds a new desk twice with what one may say, at once and in pieces.
func (d *talker) wantDesk(t *testing.T, known launchings, met map[string]int, eachByteAlone bool) {
	t.Helper()
	desk := deskKnowing(known)
	for range 2 {
		bytes := saying(d.bodiesOf(d.below(40))...)
		bytes = bytes[:min(len(bytes), 19000)] + d.behindMessages()
		begun := desk.desk()
		bodies := desk.wantFed(t, feedAsked, bytes)
		countAnswers(met, bodies, desk)
		whole := fed{desk.desk(), saying(bodies...)}
		wantPieces(t, begun, d.cut(bytes, []int{10, 50, 300}[d.below(3)]), whole)
		wantPieces(t, begun, d.cut(bytes, len(bytes)), whole)
		if eachByteAlone {
			wantPieces(t, begun, eachByte(bytes), whole)
		}
	}
}

// More bytes than there may be at once, in pieces that are within the bound.
func TestDesksWithManyBytes(t *testing.T) {
	t.Parallel()
	sources := sourcesToTalkOf()
	known := launchings{}
	met := map[string]int{}
	for seed := range 6 {
		d := talker{elder: emptyElder(known), dice: dice{seed: uint64(seed)}, sources: sources}
		var bytes string
		for len(bytes) < 40000 {
			bytes += saying(d.bodiesOf(50)...)
		}
		bytes += d.behindMessages()
		desk, answers := deskKnowing(known), ""
		for _, piece := range d.cut(bytes, 14000) {
			bodies := desk.wantFed(t, feedPlainly, piece)
			countAnswers(met, bodies, desk)
			answers += saying(bodies...)
		}
		whole := fed{desk.desk(), answers}
		wantPieces(t, impl.Desk{}, d.cut(bytes, 14900), whole)
		wantPieces(t, impl.Desk{}, d.cut(bytes, 500), whole)
	}
	wantMet(t, met, 5, answersToMeet...)
}

// Promise 11 holds for the session of a desk that began empty, too.
func TestSessionsAtADesk(t *testing.T) {
	t.Parallel()
	sources := sourcesToTalkOf()
	known := launchings{}
	for seed := range 25 {
		d := talker{elder: emptyElder(known), dice: dice{seed: uint64(5000 + seed)}, sources: sources}
		desk := deskKnowing(known)
		for range 25 {
			desk.wantFed(t, feedPlainly, saying(d.bodiesOf(2)...))
			desk.wantOnItsRoad(t)
			wantSameSession(t, desk.Session, d.Session)
		}
	}
}

// Programs that were drawn, at a desk and traced.
func TestDesksOnAnyPrograms(t *testing.T) {
	t.Parallel()
	met := map[string]int{}
	for seed := range 80 {
		d := doer{dice: dice{seed: uint64(seed)}, budget: 10 + seed%90}
		sources := []string{d.brokenUp(d.program(), []int{1, 2, 4, 9}[seed%4]), d.brokenUp(d.program(), 5)}
		known := launchings{}
		talks := talker{elder: emptyElder(known), dice: d.dice, sources: sources}
		talks.wantDesk(t, known, met, seed%10 == 0)
		for _, src := range sources {
			for _, most := range []int{0, 1, d.below(50), d.below(3000), 3000} {
				wantTrace(t, known, src, most)
			}
		}
	}
	wantMet(t, met, 5, "what", "ok", "line", "hit", "end", "runs", "told", "closed", "begun", "all taken")
}

// Promise 13: desks of any make, fed with any bytes.
func TestDesksByHand(t *testing.T) {
	t.Parallel()
	lists := longPrograms(t)
	met := map[string]int{}
	for seed := range 250 {
		s, w := anySession(seed, lists)
		d := talker{elder: elderByHand(s), dice: w.dice, sources: []string{rising, calling}}
		desk := deskByHand(impl.Desk{Session: s, Closed: d.rarely(8)})
		bytes := saying(d.bodiesOf(d.below(9))...) + d.behindMessages()
		if d.rarely(4) {
			bytes += strings.Repeat(bytes, 1+20000/(len(bytes)+1))
		}
		at := d.below(len(bytes) + 1)
		desk.buf = bytes[:at]
		begun := desk.desk()
		wasClosed := desk.closed
		bodies := desk.wantFed(t, feedAsked, bytes[at:])
		countAnswers(met, bodies, desk)
		if !wasClosed && len(bytes) <= 20000 {
			wantPieces(t, begun, d.cut(bytes[at:], 90), fed{desk.desk(), saying(bodies...)})
		}
		desk.wantFed(t, feedAsked, saying("lines")+d.behindMessages())
	}
	wantMet(t, met, 5, "bad", "what", "none", "ok", "hit", "end", "told", "runs", "closed", "begun", "all taken")
}

// Bytes of any make, of which messages come to be by chance.
func TestDesksOfAnyPieces(t *testing.T) {
	t.Parallel()
	d := dice{seed: 12}
	met := map[string]int{}
	pieces := append(slices.Repeat([]string{saying("lines"), saying("break 3"), saying("x"), saying("launch return 5"), saying("run"), saying("")}, 8), wirePieces...)
	for range 1500 {
		desk := emptyDesk()
		bytes := d.join(pieces, d.below(9))
		bodies := desk.wantFed(t, feedAsked, bytes)
		countAnswers(met, bodies, desk)
		whole := fed{desk.desk(), saying(bodies...)}
		wantPieces(t, impl.Desk{}, eachByte(bytes), whole)
		wantPieces(t, impl.Desk{}, d.cut(bytes, 9), whole)
		at := d.below(len(bytes) + 1)
		deskByHand(impl.Desk{Buf: bytes[:at]}).wantFed(t, feedAsked, bytes[at:])
	}
	wantMet(t, met, 20, "bad", "what", "ok", "-", "end", "closed", "begun", "all taken")
}

func TestDesksOneByteAway(t *testing.T) {
	t.Parallel()
	met := map[string]int{}
	oneByteAway(saying("break 12", "lines")+saying("x")[:21], func(bytes string) {
		desk := emptyDesk()
		bodies := desk.wantFed(t, feedPlainly, bytes)
		countAnswers(met, bodies, desk)
		at := len(bytes) / 2
		wantPieces(t, impl.Desk{}, []string{bytes[:at], bytes[at:]}, fed{desk.desk(), saying(bodies...)})
	})
	wantMet(t, met, 200, "bad", "what", "ok", "-", "closed", "begun")
}

// scriptOf is one of a program and of what one may say of it; now and then it is none.
func (d *talker) scriptOf(count int) string {
	program := d.source()
	var s strings.Builder
	s.WriteString(program)
	if !d.rarely(20) {
		s.WriteString("\n")
	}
	if d.rarely(12) {
		return s.String()
	}
	*d.elder, _ = d.do(impl.Cmd{Word: "launch", Text: program + "\n"})
	s.WriteString([]string{"--\n", "--\n", "--\n", "--\n--\n", "-- \n--\n"}[d.below(5)])
	for _, body := range d.bodiesOf(count) {
		s.WriteString(strings.ReplaceAll(body, "\n", " ") + "\n")
	}
	if d.rarely(20) {
		s.WriteString("run")
	}
	return s.String()
}

// Promise 12: what is told of any script, and of each of its beginnings behind the program.
func TestAnyScripts(t *testing.T) {
	t.Parallel()
	sources := sourcesToTalkOf()
	known := launchings{}
	met := map[string]int{}
	for seed := range 80 {
		d := talker{elder: emptyElder(known), dice: dice{seed: uint64(seed)}, sources: sources}
		text := d.scriptOf(d.below(40))
		whole := wantPlay(t, known, text)
		for _, line := range strings.Split(whole, "\n") {
			met[classOf(line)]++
		}
		if whole == "long\n" {
			met["no script"]++
			continue
		}
		ahead, behind, cut := strings.Cut("\n"+text, "\n--\n")
		if !cut {
			met["no commands"]++
			continue
		}
		begun := (ahead + "\n--\n")[1:]
		for _, line := range append([]string{""}, strings.SplitAfter(behind, "\n")...) {
			begun += line
			told := impl.Play(begun)
			if !strings.HasPrefix(whole, told) {
				t.Fatalf("%.900q is told %.900q, which does not begin %.900q", begun, told, whole)
			}
			met["beginnings"]++
		}
	}
	wantMet(t, met, 3, "what", "none", "ok", "full", "far", "-", "-1", "hit", "end", "runs", "done", "told", "line", "no script", "no commands", "beginnings")
}

// Texts of any make are told as one tells them by their first line of the end.
func TestPlayOfAnyTexts(t *testing.T) {
	t.Parallel()
	pieces := []string{"\n", "\n", "\n", "--\n", "--\n", "--\n", "--", "-", " ", "\r", "\x00", "\xff", "x = 1\n", "local x = 2\n", "return x\n", "x = x + 1\n", "run\n", "run", "show x\n", "launch return 5\n", "launch x =\n", "break 2\n", "step 1\n", "report\n", "output\n", "what\n", "print(\"a\\nb\")\n", "-- x\n", strings.Repeat("\n", 20), strings.Repeat("lines\n", 10)}
	known := launchings{}
	d := dice{seed: 31}
	long, short := 0, 0
	for range 6000 {
		text := d.join(pieces, d.below(14))
		if d.below(3) > 0 {
			text += "\n"
		}
		if d.below(2) == 0 {
			text = "local x = 1\n" + text
		}
		if wantPlay(t, known, text) == "long\n" {
			long++
		} else {
			short++
		}
	}
	if long < 300 || short < 3000 {
		t.Error("too few are scripts or none:", short, long)
	}
}

// The lines that are traced are those of AtLine at each step in turn, without noughts.
func TestAnyTraces(t *testing.T) {
	t.Parallel()
	known := launchings{}
	d := dice{seed: 32}
	told := 0
	for _, src := range slices.Concat(sourcesToTalkOf(), wrongSources(), []string{endless, everyForm}) {
		for _, most := range []int{-1, 0, 1, 2, d.below(40), d.below(3000), 2999, 3000, 3001, 9000} {
			told += len(wantTrace(t, known, src, most))
		}
		if known.of(src).line == 0 {
			wantTraceByLines(t, src, 200)
		}
	}
	if told < 20000 {
		t.Error("too few lines:", told)
	}
}

// wantTraceByLines goes from step to step, with a trace up to each.
func wantTraceByLines(t *testing.T, src string, last int) {
	t.Helper()
	list := compiled(t, src)
	m := impl.VmStart(list)
	var lines []int
	for step := range last + 1 {
		if at := impl.AtLine(list, m); at != 0 && m.Steps == step {
			lines = append(lines, at)
		}
		if got := impl.Trace(src, step); !slices.Equal(got, lines) {
			t.Fatalf("%.200q with %d: %v, not %v", src, step, got, lines)
		}
		m = impl.VmStep(list, m)
	}
}

// What is written into an answer is seen in no other one, nor in what was handed in.
func TestDesksAreNewMemory(t *testing.T) {
	s := talk(t, "launch "+within, "ok", "break 5", "ok", "break 14", "ok", "run", "step 20 line 5 runs hit", "step 60", "step 51 line 0 done", "rerun", "step 44 line 14 runs hit").Session
	for _, d := range []impl.Desk{{Session: s}, {Session: s, Buf: begunBytes[8]}, {Session: s, Closed: true}, {Session: s, Buf: strings.Repeat("C", 20001)}} {
		kept := everything(d)
		for _, bytes := range []string{"", "n", saying("lines", "break 3", "hello"), saying("lines"), saying("x"), "x", saying("launch return 5", "run"), saying("step 5", "back 3", "over") + "Con"} {
			first, second := feedAsked(t, d, bytes), feedAsked(t, d, bytes)
			told := everything(second)
			spoilSession(&first.Desk.Session)
			if everything(second) != told || everything(d) != kept {
				t.Errorf("two answers share memory: %q", bytes)
			}
		}
	}
	first, second := impl.Trace(calling, 3000), impl.Trace(calling, 3000)
	want := slices.Clone(second)
	for i := range first {
		first[i] = 77
	}
	_ = append(first, 77)
	if !slices.Equal(second, want) {
		t.Error("two traces share memory")
	}
}

// Nothing is kept from call to call, nor between two at the same time.
func TestDesksKeepNothing(t *testing.T) {
	s := talk(t, "launch "+calling, "ok", "break 2", "ok", "run", "step 14 line 2 runs hit").Session
	d := impl.Desk{Session: s, Buf: "Content-Length: 3\r\n"}
	kept := everything(d)
	script := calling + "--\nbreak 2\nrun\nshow a\nwhere\nreport\n"
	telling := func() string {
		on, answers := impl.DeskFeed(d, "\r\nrun"+saying("show a", "where", "report")+"Con")
		more, behind := impl.DeskFeed(on, "tent-Length: 5\r\n\r\nlinesx")
		return answers + behind + on.Buf + more.Buf + impl.Play(script) + saying(strings.Repeat("x", len(impl.Trace(calling, 3000))))
	}
	want := telling()
	var all sync.WaitGroup
	for range 8 {
		all.Go(func() {
			for range 30 {
				other, _ := impl.DeskFeed(impl.Desk{}, saying("launch "+failing, "break 3", "run"))
				impl.DeskFeed(other, "x")
				impl.Play("x =\n--\nlines\n")
				impl.Trace(failing, 100)
				if telling() != want {
					t.Error("another answer")
				}
			}
		})
	}
	all.Wait()
	if everything(d) != kept {
		t.Error("written into a desk")
	}
}
