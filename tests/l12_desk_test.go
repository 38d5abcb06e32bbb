package tests

import (
	"slices"
	"strconv"
	"strings"
	"testing"

	"loop.example/g00258/impl"
)

func TestConstantsOfADesk(t *testing.T) {
	if impl.MaxScript != 8000 {
		t.Error(impl.MaxScript)
	}
}

func TestDeskFromItsBeginning(t *testing.T) {
	d := emptyDesk()
	d.wantSays(t, saying("launch "+rising), "ok")
	d.wantSays(t, saying("break 3", "run", "show x"), "ok", "step 6 line 3 runs hit", "2")
	d.wantSays(t, saying("show x")[:10])
	d.wantLeft(t, "Content-Le", false)
	d.wantSays(t, saying("show x")[10:]+saying("hello", "", "rerun")+"Content-Length: 4", "2", "what", "what", "step 0 line 1 runs end")
	d.wantLeft(t, "Content-Length: 4", false)
	d.wantSays(t, "\r\n\r\nlin")
	d.wantSays(t, "")
	d.wantLeft(t, "Content-Length: 4\r\n\r\nlin", false)
	// The fifth byte of the word begins no message.
	d.wantSays(t, "es"+saying("run"), "what", "bad")
	d.wantLeft(t, "", true)
	d.wantSays(t, saying("run"))
	if !impl.SessionOk(d.Session) || d.Trail.Now.Steps != 0 || !slices.Equal(d.Lines, []int{3}) {
		t.Error("the session did not stay as it was", d.Trail.Now.Steps, d.Lines)
	}
}

// The first message's own bytes, so that one need not ask those who make them.
func TestAnswersOfADesk(t *testing.T) {
	for bytes, want := range map[string]string{
		"":                                     "",
		"C":                                    "",
		"Content-Length: 3\r\n\r\nru":          "",
		"Content-Length: 5\r\n\r\nlines":       "Content-Length: 1\r\n\r\n-",
		"Content-Length: 3\r\n\r\nrun":         "Content-Length: 4\r\n\r\nnone",
		"Content-Length: 0\r\n\r\n":            "Content-Length: 4\r\n\r\nwhat",
		"Content-Length: 5\r\n\r\nlinesx":      "Content-Length: 1\r\n\r\n-Content-Length: 3\r\n\r\nbad",
		"x":                                    "Content-Length: 3\r\n\r\nbad",
		"Content-Length: 9\r\n\r\nbreak 120C":  "Content-Length: 2\r\n\r\nok",
		"Content-Length: 9\r\n\r\nbreak 12\nx": "Content-Length: 4\r\n\r\nwhatContent-Length: 3\r\n\r\nbad",
	} {
		if got := feedAsked(t, impl.Desk{}, bytes); got.Answers != want {
			t.Errorf("%q: %q, not %q", bytes, got.Answers, want)
		}
	}
}

// badBytes are such that no message begins with them.
var badBytes = []string{"x", "\x00", "\n", "\r\n", " Content-Length: 3\r\n\r\nrun", "content-length: 3\r\n\r\nrun", "Content-Length: 03\r\n\r\nrun", "Content-Length: 3\n\nrun", "Content-Length: 5001", "Content-Length: -1", "run", "\xff", "Content-Length: 3\r\n\rx"}

// begunBytes are the beginning of a message.
var begunBytes = []string{"C", "Content-Length:", "Content-Length: ", "Content-Length: 5", "Content-Length: 5000", "Content-Length: 3\r", "Content-Length: 3\r\n\r", "Content-Length: 3\r\n\r\n", "Content-Length: 3\r\n\r\nru"}

func TestClosedDesks(t *testing.T) {
	launched := talk(t, "launch "+calling, "ok", "break 2", "ok", "run", "step 14 line 2 runs hit").Session
	sessions := append(unlaunched(), launched)
	for _, s := range append(sessions, badSessions(t)[:6]...) {
		for _, buf := range []string{"", begunBytes[8], saying("run"), saying("clear", "run") + "x", "x", strings.Repeat("C", 20001), strings.Repeat(saying(""), 1000)} {
			d := deskByHand(impl.Desk{Session: s, Buf: buf, Closed: true})
			for _, bytes := range []string{"", "n", saying("clear"), saying("launch "+rising, "run"), "x", badBytes[5], begunBytes[3], strings.Repeat("x", 20001), strings.Repeat(saying(""), 1000)} {
				d.wantSays(t, bytes)
				d.wantLeft(t, buf, true)
			}
		}
	}
}

func TestFeedWithNothing(t *testing.T) {
	if got := feedAsked(t, impl.Desk{}, ""); everything(got) != everything(fed{}) {
		t.Error("more than the empty desk:", everything(got))
	}
	d := emptyDesk()
	d.wantSays(t, "")
	d.wantSays(t, saying("launch "+rising, "step 2"), "ok", "step 2 line 2 runs")
	for range 3 {
		d.wantSays(t, "")
		d.wantLeft(t, "", false)
	}
	for _, begun := range begunBytes {
		d = emptyDesk()
		d.wantSays(t, begun)
		d.wantSays(t, "")
		d.wantLeft(t, begun, false)
	}
}

// What is in Buf counts as if it came just now, though the bytes behind it are none.
func TestBufThatIsThere(t *testing.T) {
	launched := launchedIn(t, rising).Session
	with := func(buf string) *elderDesk {
		return deskByHand(impl.Desk{Session: launched, Buf: buf})
	}
	for _, begun := range begunBytes {
		d := with(begun)
		d.wantSays(t, "")
		d.wantLeft(t, begun, false)
	}
	d := with(saying("run"))
	d.wantSays(t, "", "step 12 line 0 done end")
	d.wantLeft(t, "", false)
	d = with(saying("step 2", "show x") + "Con")
	d.wantSays(t, "", "step 2 line 2 runs", "1")
	d.wantLeft(t, "Con", false)
	d = with(saying("step 2") + "Con")
	d.wantSays(t, "tent-Length: 3\r\n\r\nout"+saying("report")+"Cont", "step 2 line 2 runs", "step 12 line 0 done end", "step 12 line 0 done 2")
	d.wantLeft(t, "Cont", false)
	d = with(saying("step 2") + "C")
	d.wantSays(t, "o", "step 2 line 2 runs")
	d.wantLeft(t, "Co", false)
	for _, bad := range badBytes {
		for _, behind := range []string{"", "x", saying("run")} {
			d = with(bad)
			d.wantSays(t, behind, "bad")
			d.wantLeft(t, "", true)
			d = with(saying("step 2") + bad)
			d.wantSays(t, behind, "step 2 line 2 runs", "bad")
			d.wantLeft(t, "", true)
		}
	}
	for _, begun := range begunBytes {
		d = with(begun)
		d.wantFed(t, feedAsked, "x?x?")
		d.wantLeft(t, "", true)
	}
}

// Wherever it is cut, a stream is answered as a whole, also where its beginning is handed in as Buf.
func TestBufThatIsCutAnywhere(t *testing.T) {
	whole := saying("launch "+rising, "", "what", "break 3", "run", "show x", "\r\nContent-Length: 3", "report")
	want := []string{"ok", "what", "what", "ok", "step 6 line 3 runs hit", "2", "what", "step 6 line 3 runs"}
	for _, behind := range []string{"", "Content-Length: 3\r\n\r\nru", "x" + saying("clear")} {
		all := whole + behind
		atOnce := emptyDesk()
		bodies := want
		if strings.HasPrefix(behind, "x") {
			bodies = append(slices.Clone(want), "bad")
		}
		atOnce.wantSays(t, all, bodies...)
		for at := range len(all) + 1 {
			deskByHand(impl.Desk{Buf: all[:at]}).wantSays(t, all[at:], bodies...)
			wantPieces(t, impl.Desk{}, []string{all[:at], all[at:]}, fed{atOnce.desk(), saying(bodies...)})
		}
		wantPieces(t, impl.Desk{}, eachByte(all), fed{atOnce.desk(), saying(bodies...)})
	}
}

// streamOf are just so many bytes: messages that step on, with one behind them that is no command, and how they are answered.
func streamOf(bytes int) (string, []string) {
	s := saying("launch "+endless, "step 1", "step 3", "clear")
	want := []string{"ok", "step 1 line 1 runs", "step 4 line 1 runs", "ok"}
	for bytes-len(s) > 5024+30 {
		s += saying(strings.Repeat("x", 5000))
		want = append(want, "what")
	}
	rest := bytes - len(s)
	// With what a message has beside its body of hundreds or thousands of bytes.
	head := 23
	if rest-head > 999 {
		head = 24
	}
	return s + saying(strings.Repeat("y", rest-head)), append(want, "what")
}

// wantByBound feeds bytes of which some are in Buf already; beyond the bound on all of them that counts alone.
func wantByBound(t *testing.T, all string, left string, closed bool, want ...string) {
	t.Helper()
	tooMany := len(all) > 20000
	if tooMany {
		want, left, closed = []string{"bad"}, "", true
	}
	for _, at := range []int{0, 1, 50, 5000, len(all) / 2, len(all) - 1, len(all)} {
		d := deskByHand(impl.Desk{Buf: all[:at]})
		d.wantSays(t, all[at:], want...)
		d.wantLeft(t, left, closed)
		// It is asked ahead of all messages, so that none of them is done.
		if tooMany && d.Launched {
			t.Fatal("launched beyond the bound")
		}
	}
}

func TestBoundOfBuf(t *testing.T) {
	for _, bytes := range []int{5060, 19998, 19999, 20000, 20001, 20002} {
		s, want := streamOf(bytes)
		wantByBound(t, s, "", false, want...)
		wantByBound(t, "x"+s[1:], "", true, "bad")
		long, want := streamOf(bytes + 20)
		begun := long[strings.LastIndex(long, aheadOfSize):bytes]
		wantByBound(t, long[:bytes], begun, false, want[:len(want)-1]...)
		less, want := streamOf(bytes - 1)
		wantByBound(t, less+"C", "C", false, want...)
		wantByBound(t, less+"x", "", true, append(want, "bad")...)
	}
}

// Beyond the bound it counts for nothing what the bytes are, or the session; that stays.
func TestBeyondTheBoundOfBuf(t *testing.T) {
	launched := talk(t, "launch "+calling, "ok", "break 2", "ok", "run", "step 14 line 2 runs hit").Session
	for _, s := range append(badSessions(t)[:6], impl.Session{}, launched) {
		for _, all := range []string{strings.Repeat(saying("clear"), 770), strings.Repeat("x", 20001), strings.Repeat("C", 50000), strings.Repeat(saying(""), 953), saying("clear") + strings.Repeat("x", 20000), strings.Repeat(saying(""), 952) + "Content-L", strings.Repeat(saying(""), 952) + "Content-Le"} {
			for _, at := range []int{0, 1, 100, len(all) - 1, len(all)} {
				d := deskByHand(impl.Desk{Session: s, Buf: all[:at]})
				d.wantSays(t, all[at:], "bad")
				d.wantLeft(t, "", true)
				wantSameSession(t, d.Session, s)
			}
		}
	}
	// What is taken counts no more, so that many times as much may come.
	d := emptyDesk()
	s, _ := streamOf(20000)
	for range 5 {
		if got := d.wantFed(t, feedPlainly, s); len(got) != 8 {
			t.Fatal("so many answers:", len(got))
		}
		d.wantLeft(t, "", false)
	}
	// A beginning is kept, and counts.
	d.wantSays(t, s[:19])
	d.wantLeft(t, s[:19], false)
	d.wantSays(t, s[19:], "ok", "step 1 line 1 runs", "step 4 line 1 runs", "ok", "what", "what", "what", "what")
	d.wantSays(t, "C")
	d.wantSays(t, "ontent-Length: 0\r\n\r\n"+s[:19980], "bad")
	d.wantLeft(t, "", true)
}

// Messages are taken a hundred at once, but all of them are done.
func TestManyMessagesAtOnce(t *testing.T) {
	for _, count := range []int{0, 1, 2, 50, 98, 99, 100, 101, 102, 199, 200, 201, 299, 300, 301, 500, 690} {
		var all strings.Builder
		var want []string
		e := emptyElder(launchings{})
		for i := range count {
			body := []string{"", "lines", "break " + strconv.Itoa(i%23), "what", "clear"}[i%5]
			all.WriteString(saying(body))
			on, answer := e.obeys(body)
			*e = on
			want = append(want, answer)
		}
		for _, c := range []struct {
			behind, left string
			more         []string
		}{
			{"", "", nil}, {"C", "C", nil}, {begunBytes[8], begunBytes[8], nil}, {"Content-Length: 50", "Content-Length: 50", nil},
			{saying("break 7"), "", []string{"ok"}}, {saying("clear", "lines")[:27] + "x", "", []string{"ok", "bad"}},
			{"x", "", []string{"bad"}}, {"x" + saying("clear"), "", []string{"bad"}}, {"Content-Length: 5001", "", []string{"bad"}}, {saying("clear") + "\n" + saying("lines"), "", []string{"ok", "bad"}},
		} {
			d := emptyDesk()
			d.wantSays(t, all.String()+c.behind, append(slices.Clone(want), c.more...)...)
			d.wantLeft(t, c.left, slices.Contains(c.more, "bad"))
		}
		// So with those that stand in Buf already.
		deskByHand(impl.Desk{Buf: all.String()}).wantSays(t, "", want...)
		deskByHand(impl.Desk{Buf: all.String()}).wantSays(t, saying("break 7"), append(slices.Clone(want), "ok")...)
	}
	// As many as there can be: 952, and one more.
	most := strings.Repeat(saying(""), 952)
	emptyDesk().wantSays(t, most, slices.Repeat([]string{"what"}, 952)...)
	emptyDesk().wantSays(t, most+"Content-", slices.Repeat([]string{"what"}, 952)...)
	emptyDesk().wantSays(t, most+"Xontent-", append(slices.Repeat([]string{"what"}, 952), "bad")...)
	emptyDesk().wantSays(t, most+saying(""), "bad")
}

// noCommands are bodies that tell none.
func noCommands() []string {
	return slices.Concat([]string{"", " ", "\n", "x", "hello", "run ", " run", "RUN", "run\n", "run\r\n", "step", "step 01", "step 1000000", "launch", "launch\nx = 1", "show", "\x00", "\xff\xfe", "--", "Content-Length: 3", saying("run"), "bad", "what", "ä", strings.Repeat("x", 5000)}, likeMessages)
}

func TestMessagesOfNoCommand(t *testing.T) {
	launched := talk(t, "launch "+rising, "ok", "break 3", "ok", "step 5", "step 5 line 2 runs").Session
	for _, s := range append(append(unlaunched(), badSessions(t)[:6]...), launched) {
		d := deskByHand(impl.Desk{Session: s})
		for _, body := range noCommands() {
			if body == "run" {
				continue
			}
			d.wantSays(t, saying(body), "what")
			wantSameSession(t, d.Session, s)
			d.wantSays(t, saying(body, body)+"Co", "what", "what")
			d.wantLeft(t, "Co", false)
			d.buf = ""
		}
		for b := range 256 {
			d.wantSays(t, saying(string([]byte{byte(b)})), "what")
		}
	}
}

// What stands behind bytes of which none could be made is never looked at.
func TestBadMessages(t *testing.T) {
	first, behind := saying("launch "+rising, "break 3", "run"), saying("clear", "step 2", "launch "+calling)
	told := []string{"ok", "ok", "step 6 line 3 runs hit"}
	for _, bad := range badBytes {
		d := emptyDesk()
		d.wantSays(t, bad+first+behind, "bad")
		d.wantLeft(t, "", true)
		if d.Launched || len(d.Lines) > 0 {
			t.Fatalf("%q: done behind what is bad", bad)
		}
		for _, more := range []string{bad, bad + behind, bad + bad} {
			d = emptyDesk()
			d.wantSays(t, first+more, append(slices.Clone(told), "bad")...)
			d.wantLeft(t, "", true)
			if d.Trail.Now.Steps != 6 || !slices.Equal(d.Lines, []int{3}) {
				t.Fatalf("%q: the session did not stay as it was", bad)
			}
			d.wantSays(t, behind)
			d.wantSays(t, "")
			d.wantSays(t, bad)
			wantPieces(t, impl.Desk{}, eachByte(first+more), fed{d.desk(), saying(append(slices.Clone(told), "bad")...)})
		}
		// What is left ahead of it is lost with it.
		d = emptyDesk()
		d.wantSays(t, first+"Content-Le", told...)
		d.wantSays(t, bad+behind, "bad")
		d.wantLeft(t, "", true)
	}
}

// A session that is not as it should be is answered, and closes nothing.
func TestBadSessionsAtADesk(t *testing.T) {
	for _, s := range badSessions(t) {
		d := deskByHand(impl.Desk{Session: s})
		for _, word := range allCommands {
			text := impl.CmdText(cmdOf(word))
			d.wantSays(t, saying(text), "bad")
			d.wantLeft(t, "", false)
		}
		d.wantSays(t, saying("run", "hello", "launch x = ", "")+"Con", "bad", "what", "bad", "what")
		d.wantLeft(t, "Con", false)
		d.wantSays(t, "\n", "bad")
		d.wantLeft(t, "", true)
		wantSameSession(t, d.Session, s)
	}
}

// outputOf is a program of which output tells so many bytes.
func outputOf(bytes int) string {
	return `local s = "` + strings.Repeat("x", 1000) + `" s = s .. s print(s) print(s) print("` + strings.Repeat("y", bytes-4005) + `")`
}

// reportOf is a program of which report tells so many bytes where it ended.
func reportOf(bytes int) string {
	return `local t = {} t[1] = "` + strings.Repeat("x", 1000) + `" t[1] = t[1] .. t[1] t[2] = t[1] t[3] = "` + strings.Repeat("y", bytes-4050) + `" return t`
}

func TestLongAnswers(t *testing.T) {
	inDesk := func(answer string) string {
		if len(answer) > 5000 {
			return "long"
		}
		return answer
	}
	x := strings.Repeat("x", 2000)
	for _, bytes := range []int{4900, 4998, 4999, 5000, 5001, 5002, 5019, 5020, 5021, 5500} {
		output := "=" + x + ";=" + x + ";=" + strings.Repeat("y", bytes-4005)
		table := `{[1] = "` + x + `", [2] = "` + x + `", [3] = "` + strings.Repeat("y", bytes-4050) + `"}`
		report := "step 28 line 0 done " + table
		if len(output) != bytes || len(report) != bytes {
			t.Fatal("so many bytes:", len(output), len(report), "not", bytes)
		}
		d := emptyDesk()
		d.wantSays(t, saying("launch "+outputOf(bytes), "run", "output", "report"), "ok", "step 20 line 0 done end", inDesk(output), "step 20 line 0 done nil")
		d.wantSays(t, saying("output", "lines")+"Con", inDesk(output), "-")
		d.wantLeft(t, "Con", false)
		d.buf = ""
		d.wantSays(t, saying("launch "+reportOf(bytes), "run", "report", "back 1", "show t"), "ok", "step 28 line 0 done end", inDesk(report), "step 27 line 1 runs", inDesk(table))
		d.wantLeft(t, "", false)
		// A script's answers have no such bound.
		for _, c := range []struct{ text, want string }{
			{outputOf(bytes) + "\n--\nrun\noutput\n", "ok\nstep 20 line 0 done end\n" + output + "\n"},
			{reportOf(bytes) + "\n--\nrun\nreport\nback 1\nshow t\n", "ok\nstep 28 line 0 done end\n" + report + "\nstep 27 line 1 runs\n" + table + "\n"},
		} {
			if got := wantPlay(t, launchings{}, c.text); got != c.want {
				t.Errorf("Play tells %.300q, not %.300q", got, c.want)
			}
		}
	}
}

func TestScript(t *testing.T) {
	for _, c := range []struct{ text, want string }{
		{"", "ok\n"}, {"\n", "ok\n"}, {"\n\n\n", "ok\n"}, {" \n", "ok\n"}, {"return 1\n", "ok\n"}, {"local x = 1\nx = x + 1\n", "ok\n"},
		// What does not end with a newline is none.
		{"x", "long\n"}, {"run", "long\n"}, {" ", "long\n"}, {"return 1\nreturn 2", "long\n"}, {"\nx", "long\n"}, {"--", "long\n"}, {"return 1\n--", "long\n"}, {"return 1\n--\nrun", "long\n"}, {"\n ", "long\n"}, {"\r", "long\n"}, {"\x00", "long\n"}, {"x =", "long\n"}, {"\n\r", "long\n"},
		// Without -- all of it is a program.
		{"run\n", "line 1\n"}, {"report\nrun\n", "line 2\n"}, {"x = 1\nrun()\n", "ok\n"}, {"x =\n", "line 1\n"}, {"x = 1\n\n?\n", "line 3\n"},
		{"--\n", "ok\n"}, {"--\n--\n", "ok\nwhat\n"}, {"--\nrun\n", "ok\nstep 2 line 0 done end\n"}, {"\n--\n", "ok\n"}, {"--\n\n", "ok\nwhat\n"}, {"--\n\n\n", "ok\nwhat\nwhat\n"},
		{"return 5\n--\n", "ok\n"}, {"return 5\n--\nrun\nreport\n", "ok\nstep 2 line 0 done end\nstep 2 line 0 done 5\n"}, {"return 5\n--\nrun\n--\nreport\n", "ok\nstep 2 line 0 done end\nwhat\nstep 2 line 0 done 5\n"},
		// A line that is only -- , and no other.
		{"return 5 --\nrun\n", "line 2\n"}, {"-- \nreturn 5\n--\nrun\nreport\n", "ok\nstep 2 line 0 done end\nstep 2 line 0 done 5\n"}, {" --\nreturn 5\n--\nreport\n", "ok\nstep 0 line 2 runs\n"}, {"--x\n---\n--\t\n--\r\n-- --\nreturn 5\n--\nreport\n", "ok\nstep 0 line 6 runs\n"},
		{"return 5\n--\n--x\n -- \n", "ok\nwhat\nwhat\n"}, {"--\r\n", "ok\n"}, {"- -\n", "line 1\n"}, {"-\n--\nlines\n", "line 1\n-\n"},
		// A program that is none: commands are done all the same.
		{"x =\n--\nrun\n", "line 1\nnone\n"}, {"x =\n--\nrun\nlines\nbreak 3\nlines\nlaunch return 5\nrun\nreport\n", "line 1\nnone\n-\nok\n3\nok\nstep 2 line 0 done end\nstep 2 line 0 done 5\n"}, {"end\n--\nlaunch x =\nshow x\n", "line 1\nline 1\nnone\n"},
		{"return 5\n--\nlaunch x =\nrun\n", "ok\nline 1\nstep 2 line 0 done end\n"}, {"return 5\n--\nlaunch \nreport\nlaunch\nlaunch return 6\nrun\nreport\n", "ok\nok\nstep 0 line 0 runs\nwhat\nok\nstep 2 line 0 done end\nstep 2 line 0 done 6\n"},
		{"return 5\n--\n \nrun \n run\nRUN\nrun\r\nstep\nstep 01\nstep 3001\nstep x\nhello\nContent-Length: 3\n", "ok\nwhat\nwhat\nwhat\nwhat\nwhat\nwhat\nwhat\nfar\nwhat\nwhat\nwhat\n"},
		{"local x = 1\nx = x + 1\nreturn x\n--\nbreak 3\nrun\nshow x\nrerun\nwhat\nreport\n", "ok\nok\nstep 6 line 3 runs hit\n2\nstep 0 line 1 runs end\nwhat\nstep 0 line 1 runs\n"},
		// Answers may hold newlines and any bytes.
		{"print(\"a\\nb\\n\")\nprint(\"\xff\x00\")\n--\nrun\noutput\nlines\n", "ok\nstep 10 line 0 done end\n=a\nb\n;=\xff\x00\n-\n"},
		{"local x = \"\xfe\\n\"\nreturn x\n--\nbreak 2\nrun\nshow x\nshow \xff\nshow \nshow  x\n", "ok\nok\nstep 2 line 2 runs hit\n\"\xfe\\n\"\nnone\nnone\nnone\n"},
	} {
		if got := wantPlay(t, launchings{}, c.text); got != c.want {
			t.Errorf("%q: %q, not %q", c.text, got, c.want)
		}
	}
}

func TestBoundsOfScripts(t *testing.T) {
	known := launchings{}
	play := func(text string, want string) {
		t.Helper()
		if got := wantPlay(t, known, text); got != want {
			t.Errorf("%.200q: %.300q, not %.300q", text, got, want)
		}
	}
	lines := func(count int) string { return strings.Repeat("\n", count) }
	answers := func(answer string, count int) string { return strings.Repeat(answer+"\n", count) }
	for count := range 61 {
		play(lines(count), "ok\n")
		if count > 0 {
			play("--\n"+lines(count-1), "ok\n"+answers("what", count-1))
			play(lines(count-1)+"--\n", "ok\n")
		}
	}
	for _, count := range []int{61, 62, 100, 1000, 7999, 8000} {
		play(lines(count), "long\n")
		play(lines(count-1)+"x", "long\n")
		play(lines(count)+"x", "long\n")
		play("--\n"+lines(count-1), "long\n")
		play(lines(count-1)+"--\n", "long\n")
	}
	play("--\n"+strings.Repeat("lines\n", 59), "ok\n"+answers("-", 59))
	play("--\n"+strings.Repeat("lines\n", 60), "long\n")
	play(strings.Repeat("x = 1\n", 30)+"--\n"+strings.Repeat("lines\n", 29), "ok\n"+answers("-", 29))
	play(strings.Repeat("x = 1\n", 30)+"--\n"+strings.Repeat("lines\n", 30), "long\n")
	play(strings.Repeat("x = 1\n", 59)+"return 5", "long\n")
	play(strings.Repeat("x = 1\n", 60), "ok\n")
	play(strings.Repeat("x = 1\n", 60)+"--\n", "long\n")

	// A source's own bound counts within a script's; the newlines are its.
	program := strings.Replace(sourceOf(3999), "\n", " ", 1) + "\n"
	play(program, "ok\n")
	play(" "+program, "line 1\n")
	play(program+"--\nreport\n", "ok\nstep 0 line 1 runs\n")
	play(" "+program+"--\nreport\n", "line 1\nnone\n")
	for _, bytes := range []int{7900, 7998, 7999, 8000} {
		play(strings.Repeat("x", bytes-1)+"\n", "line 1\n")
		play(strings.Repeat(" ", bytes-4)+"\n--\n", "line 1\n")
		play(program+"--\nshow "+strings.Repeat("x", bytes-4000-9)+"\n", "ok\nnone\n")
		play("--\n"+strings.Repeat("x", bytes-4)+"\n", "ok\nwhat\n")
		play("--\nlaunch return 5 -- "+strings.Repeat("x", bytes-23)+"\n", "ok\nline 1\n")
	}
	for _, bytes := range []int{8001, 8002, 9000, 100000} {
		play(strings.Repeat("x", bytes-1)+"\n", "long\n")
		play(strings.Repeat(" ", bytes-4)+"\n--\n", "long\n")
		play(program+"--\nshow "+strings.Repeat("x", bytes-4000-9)+"\n", "long\n")
		play("--\n"+strings.Repeat("x", bytes-4)+"\n", "long\n")
		play(strings.Repeat("x", bytes), "long\n")
	}
	// A program with too many slots, and one that is too long when it is shown.
	play(strings.ReplaceAll(manyLocals(201), "\n", " ")+"\n--\nreport\n", "line 1\nnone\n")
	play(strings.ReplaceAll(manyLocals(200), "\n", " ")+"\n--\nreport\n", "ok\nstep 0 line 1 runs\n")
	play("\n"+strings.Repeat("a=#####1;", 400)+"\n--\nreport\n", "line 1\nnone\n")
}

// Promise 12: each beginning of a script behind its program.
func TestBeginningsOfScripts(t *testing.T) {
	known := launchings{}
	for _, text := range []string{
		"local x = 1\nx = x + 1\nreturn x\n--\nbreak 3\nrun\nshow x\nrerun\nwhat\n--\n\nreport\nlaunch x =\nlaunch return 7\nrun\nreport\n",
		"x =\n--\nrun\nbreak 2\nlines\nlaunch " + strings.ReplaceAll(rising, "\n", " ") + "\nrun\noutput\nclear\nlines\nstep 3001\n",
		"--\n--\n--\nrun\n", "print(\"a\\n\\n\")\n--\nrun\noutput\noutput\n",
	} {
		whole := wantPlay(t, known, text)
		begins := strings.Index("\n"+text, "\n--\n") + 3
		for at := begins; at <= len(text); at++ {
			if text[at-1] != '\n' {
				continue
			}
			got := wantPlay(t, known, text[:at])
			if !strings.HasPrefix(whole, got) || at < len(text) && got == whole {
				t.Errorf("%q: %q, which does not begin %q", text[:at], got, whole)
			}
		}
	}
}

func TestTrace(t *testing.T) {
	known := launchings{}
	for _, c := range []struct {
		src  string
		most int
		want []int
	}{
		{"local i = 0\nwhile i < 2 do\ni = i + 1\nend\nprint(i)", 100, []int{1, 2, 3, 2, 2, 3, 2, 2, 5, 1}},
		{"", 0, nil}, {"", 3000, nil}, {"\n\n", 3000, nil}, {"-- nothing", 3000, nil},
		{"return 5", 0, []int{1}}, {"return 5", 1, []int{1}}, {"return 5", 3000, []int{1}}, {"\n\nreturn 5", 3000, []int{3}}, {"\nreturn\n5", 3000, []int{3, 2}},
		{rising, 0, []int{1}}, {rising, 1, []int{1}}, {rising, 2, []int{1, 2}}, {rising, 5, []int{1, 2}}, {rising, 6, []int{1, 2, 3}}, {rising, 11, []int{1, 2, 3, 4}}, {rising, 12, []int{1, 2, 3, 4}}, {rising, 3000, []int{1, 2, 3, 4}},
		{rising, -1, nil}, {rising, -3000, nil}, {rising, -1 << 63, nil}, {rising, 3001, nil}, {rising, 9000, nil}, {rising, 1<<63 - 1, nil},
		{"x =", 100, nil}, {"x = \n", 0, nil}, {"?", 3000, nil}, {"end", 1, nil}, {"\"", 1, nil}, {"\xff", 1, nil}, {sourceOf(4001), 100, nil}, {"x =", -1, nil}, {"x =", 3001, nil},
		{manyLocals(201), 100, nil}, {strings.Repeat("a=#####1;", 400), 100, nil}, {manyLocals(201), -1, nil},
		// An error, an end that is none, and a loop in one line.
		{"x = 1\ny = 2", 3000, []int{1}}, {"local x = 1\nx = x + {}\nreturn x", 3000, []int{1, 2}}, {"error(\n\"a\"\n)", 3000, []int{1, 2, 1}},
		{endless, 0, []int{1}}, {endless, 2, []int{1}}, {endless, 3, []int{1, 1}}, {endless, 5, []int{1, 1}}, {endless, 6, []int{1, 1, 1}}, {endless, 3000, slices.Repeat([]int{1}, 1001)}, {endless, 2999, slices.Repeat([]int{1}, 1000)}, {endless, 3001, nil},
		{"while true do\nend", 3000, slices.Repeat([]int{1}, 1001)}, {"while\ntrue\ndo\nend", 8, []int{2, 1, 2, 1, 2, 1}},
		// Functions are gone into.
		{"local function f()\nreturn 5\nend\nf()", 3000, []int{1, 4, 2, 1}}, {calling, 3000, []int{1, 5, 12, 6, 2, 3, 7, 2, 3, 2, 3, 1}}, {calling, 14, []int{1, 5, 12, 6, 2}}, {calling, 13, []int{1, 5, 12, 6}},
		{failing, 3000, []int{1, 5, 9, 6, 2, 10, 11, 6, 2}}, {recursing, 3000, []int{1, 7, 2, 3, 2, 3, 2, 3, 2, 5, 5, 5, 5, 8, 1}},
	} {
		if got := wantTrace(t, known, c.src, c.most); !slices.Equal(got, c.want) {
			t.Errorf("%.100q with %d: %.300v, not %.300v", c.src, c.most, got, c.want)
		}
	}
}
