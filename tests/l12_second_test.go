package tests

import (
	"slices"
	"strings"
	"testing"

	"loop.example/g00258/impl"
)

// An elderDesk is a desk as it is to be, over a session as it is to be. A second opinion takes one message after the other, as if there were no others.
type elderDesk struct {
	elder
	buf    string
	closed bool
}

func emptyDesk() *elderDesk {
	return deskKnowing(launchings{})
}

func deskKnowing(known launchings) *elderDesk {
	return &elderDesk{elder: *emptyElder(known)}
}

// deskByHand is of a desk that was written by hand.
func deskByHand(d impl.Desk) *elderDesk {
	return &elderDesk{elder: *elderByHand(d.Session), buf: d.Buf, closed: d.Closed}
}

func (d elderDesk) desk() impl.Desk {
	return impl.Desk{Session: d.Session, Buf: d.buf, Closed: d.closed}
}

func (e elder) obeys(text string) (elder, string) {
	r := elderReading(text)
	if !r.Ok {
		return e, "what"
	}
	return e.do(r.Cmd)
}

// feed is what bytes make of the desk, and the bodies of the answers.
func (d elderDesk) feed(bytes string) (elderDesk, []string) {
	if d.closed {
		return d, nil
	}
	d.buf += bytes
	var told []string
	said := impl.WireBad
	if len(d.buf) < 20001 {
		told, said = d.takes()
	}
	if said == impl.WireBad {
		told = append(told, "bad")
		d.buf, d.closed = "", true
	}
	return d, told
}

func (d *elderDesk) takes() ([]string, int) {
	var told []string
	for {
		n := elderNext(d.buf)
		if n.Said != impl.WireOk {
			return told, n.Said
		}
		d.buf = d.buf[n.Count:]
		var answer string
		d.elder, answer = d.obeys(n.Body)
		if len(answer) >= 5001 {
			answer = "long"
		}
		told = append(told, answer)
	}
}

// saying are these bodies as messages, one behind the other.
func saying(bodies ...string) string {
	var s strings.Builder
	for _, body := range bodies {
		s.WriteString(elderPut(len(body), body))
	}
	return s.String()
}

// A fed is what DeskFeed answers.
type fed struct {
	Desk    impl.Desk
	Answers string
}

// feedAsked is DeskFeed of copies with marked room, which must stay as they are; what is answered is in memory of its own.
func feedAsked(t *testing.T, d impl.Desk, bytes string) fed {
	t.Helper()
	given, piece := roomyCopyOf(d), strings.Clone(bytes)
	want := everything(given)
	var got fed
	got.Desk, got.Answers = impl.DeskFeed(given, piece)
	if everything(given) != want || piece != bytes {
		t.Fatalf("written into a desk by %.200q:\n%.3000s\n%.3000s", bytes, want, everything(given))
	}
	wantOwnMemory(t, got, given, piece)
	return got
}

// feedPlainly has no look at memory, as that takes long.
func feedPlainly(t *testing.T, d impl.Desk, bytes string) fed {
	desk, answers := impl.DeskFeed(d, bytes)
	return fed{desk, answers}
}

func wantSameFed(t *testing.T, got fed, want fed) {
	t.Helper()
	if got.Answers != want.Answers {
		t.Fatalf("answered %.900q, not %.900q", got.Answers, want.Answers)
	}
	if got.Desk.Buf != want.Desk.Buf || got.Desk.Closed != want.Desk.Closed {
		t.Fatalf("Buf %.200q and Closed %v, not %.200q and %v", got.Desk.Buf, got.Desk.Closed, want.Desk.Buf, want.Desk.Closed)
	}
	wantSameSession(t, got.Desk.Session, want.Desk.Session)
}

// wantFed feeds the desk, and goes on from what was answered.
func (d *elderDesk) wantFed(t *testing.T, by func(t *testing.T, d impl.Desk, bytes string) fed, bytes string) []string {
	t.Helper()
	got := by(t, d.desk(), bytes)
	want, bodies := d.feed(bytes)
	wantSameFed(t, got, fed{want.desk(), saying(bodies...)})
	want.Session = got.Desk.Session
	*d = want
	return bodies
}

// wantSays feeds the desk with bytes that are to be answered so.
func (d *elderDesk) wantSays(t *testing.T, bytes string, bodies ...string) {
	t.Helper()
	if got := d.wantFed(t, feedAsked, bytes); !slices.Equal(got, bodies) {
		t.Fatalf("%.200q: %.900q, not %.900q", bytes, got, bodies)
	}
}

// wantLeft asks for what is to be taken still, and whether the desk is closed.
func (d *elderDesk) wantLeft(t *testing.T, buf string, closed bool) {
	t.Helper()
	if d.buf != buf || d.closed != closed {
		t.Fatalf("Buf %.200q and Closed %v, not %.200q and %v", d.buf, d.closed, buf, closed)
	}
}

// wantPieces asks for promise 12: bytes that come in pieces are answered as those that come at once.
func wantPieces(t *testing.T, d impl.Desk, pieces []string, whole fed) {
	t.Helper()
	got := fed{Desk: d}
	for _, piece := range pieces {
		on, more := impl.DeskFeed(got.Desk, piece)
		got = fed{on, got.Answers + more}
	}
	wantSameFed(t, got, whole)
}

func eachByte(s string) []string {
	var pieces []string
	for i := range len(s) {
		pieces = append(pieces, s[i:i+1])
	}
	return pieces
}

// elderPlay cuts a script at the first line of its end.
func elderPlay(known launchings, text string) string {
	ahead := "\n" + text
	if !strings.HasSuffix(ahead, "\n") || len(text) >= 8001 || strings.Count(text, "\n") >= 61 {
		return "long\n"
	}
	program, commands, cut := strings.Cut(ahead, "\n--\n")
	if cut {
		program += "\n"
	}
	e, told := emptyElder(known).do(impl.Cmd{Word: "launch", Text: program[1:]})
	for commands != "" {
		line, behind, _ := strings.Cut(commands, "\n")
		var answer string
		e, answer = e.obeys(line)
		told += "\n" + answer
		commands = behind
	}
	return told + "\n"
}

// wantPlay tells what is told of a text.
func wantPlay(t *testing.T, known launchings, text string) string {
	t.Helper()
	got := textAsked(t, text, impl.Play)
	if want := elderPlay(known, text); got != want {
		t.Fatalf("Play of %.900q: %.900q, not %.900q", text, got, want)
	}
	return got
}

// elderTrace goes by what there is to see on the program's road.
func elderTrace(known launchings, src string, most int) []int {
	l := known.of(src)
	if l.line != 0 || most < 0 || most > 3000 {
		return nil
	}
	var lines []int
	for step := 0; step <= most && l.outlook.reaches(step); step++ {
		if line := l.outlook.seen[step].told(); line != 0 {
			lines = append(lines, line)
		}
	}
	return lines
}

// wantTrace tells the lines that a program is at.
func wantTrace(t *testing.T, known launchings, src string, most int) []int {
	t.Helper()
	got := textAsked(t, src, func(src string) []int { return impl.Trace(src, most) })
	if want := elderTrace(known, src, most); !slices.Equal(got, want) {
		t.Fatalf("Trace of %.900q with %d: %v, not %v", src, most, got, want)
	}
	return got
}
