package tests

import (
	"math"
	"strconv"
	"strings"
	"testing"

	"loop.example/g00258/impl"
)

const (
	aheadOfSize = "Content-Length: "
	behindSize  = "\r\n\r\n"
)

func TestConstantsOfMessages(t *testing.T) {
	got := [4]int{impl.MaxMessage, impl.WireOk, impl.WireMore, impl.WireBad}
	if want := [4]int{5000, 0, 1, 2}; got != want {
		t.Error(got)
	}
}

func TestPutMessage(t *testing.T) {
	for _, c := range []struct{ body, want string }{
		{"", "Content-Length: 0\x0d\x0a\x0d\x0a"},
		{"x", "Content-Length: 1\x0d\x0a\x0d\x0ax"},
		{"\r\n", "Content-Length: 2\x0d\x0a\x0d\x0a\x0d\x0a"},
		{"step 12", "Content-Length: 7\x0d\x0a\x0d\x0astep 12"},
		{"show ä", "Content-Length: 7\x0d\x0a\x0d\x0ashow \xc3\xa4"},
		{"\x00\"\xff", "Content-Length: 3\x0d\x0a\x0d\x0a\x00\x22\xff"},
	} {
		if got := putOf(t, c.body); got != c.want {
			t.Errorf("%q: %q", c.body, got)
		}
		wantThrough(t, c.body, "")
	}
	for _, size := range []int{0, 1, 9, 10, 99, 100, 999, 1000, 4999, 5000} {
		body := strings.Repeat("b", size)
		if got := putOf(t, body); got != aheadOfSize+strconv.Itoa(size)+behindSize+body {
			t.Errorf("%d: %.60q", size, got)
		}
		wantThrough(t, body, "b")
	}
	for _, size := range []int{5001, 5002, 9999, 10000, 50000, 100000} {
		if got := putOf(t, strings.Repeat("b", size)); got != "" {
			t.Errorf("%d: %.60q", size, got)
		}
	}
}

func TestNextMessageOfNoSizeYet(t *testing.T) {
	for end := range len(aheadOfSize) + 1 {
		begun := aheadOfSize[:end]
		wantWireCode(t, begun, impl.WireMore)
		for b := range 256 {
			want := impl.WireBad
			isNext := end < len(aheadOfSize) && aheadOfSize[end] == byte(b)
			isDigit := end == len(aheadOfSize) && b >= '0' && b <= '9'
			if isNext || isDigit {
				want = impl.WireMore
			}
			wantWireCode(t, begun+string([]byte{byte(b)}), want)
		}
	}
	for _, s := range []string{
		"content-length: 1\r\n\r\nx", "CONTENT-LENGTH: 1\r\n\r\nx", "Content-length: 1\r\n\r\nx", "Content-LENGTH: 1\r\n\r\nx",
		"Content-Length:1\r\n\r\nx", "Content-Length : 1\r\n\r\nx", "Content-Length:\t1\r\n\r\nx", "Content_Length: 1\r\n\r\nx",
		" Content-Length: 1\r\n\r\nx", "\r\nContent-Length: 1\r\n\r\nx", "\x00Content-Length: 1\r\n\r\nx", "Content-Type: 1\r\n\r\nx",
		"ContentContent-Length: 1\r\n\r\nx", "run", "\r\n\r\n", "1\r\n\r\nx", "Content-Length: Content-Length: 1\r\n\r\nx",
	} {
		wantWireCode(t, s, impl.WireBad)
	}
}

func TestNextMessageOfSizes(t *testing.T) {
	for _, size := range []string{"0", "1", "5", "9", "10", "50", "99", "100", "499", "500", "501", "999", "1000", "4999", "5000"} {
		wantWireCode(t, aheadOfSize+size, impl.WireMore)
		wantWireCode(t, aheadOfSize+size+"\r", impl.WireMore)
		for _, behind := range []string{" ", "x", "-", ".", ",", ";", "_", "\n", "\x00", "\xff", "e1", " 0", " \r\n\r\n", "\t\r\n\r\n", "b\r\n\r\n", "\u0661\r\n\r\n"} {
			wantWireCode(t, aheadOfSize+size+behind, impl.WireBad)
		}
	}
	many := strings.Repeat("1", 10000)
	for _, size := range []string{
		"00", "01", "05", "007", "0000", "00000", "05000",
		"5001", "5002", "5009", "5010", "6000", "9999", "10000", "49999", "50000", "50001", "99999", "4294967296", "4294967301",
		"9223372036854775807", "9223372036854775808", "18446744073709551616", "18446744073709551621", "99999999999999999999", many, many + "\r", strings.Repeat("0", 10000),
		"-", "+", "-0", "-1", "+0", "+1", "-5", "+5000", "--1", " ", " 0", " 5", "  5", "\t5", "\n5", "\r5",
		"x", "a", "x5", "0x5", "0b1", "0o7", "1_0", "1e2", "5.0", ".5", "five", "\u0665", "\uff15", "5\u0665", "\xff", "\x00", "\"5\"",
	} {
		wantWireCode(t, aheadOfSize+size, impl.WireBad)
		wantWireCode(t, aheadOfSize+size+behindSize, impl.WireBad)
		wantWireCode(t, aheadOfSize+size+behindSize+"12345", impl.WireBad)
	}
	for _, s := range []string{aheadOfSize + behindSize, aheadOfSize + "\r", aheadOfSize + "\r\n", aheadOfSize + behindSize + "x"} {
		wantWireCode(t, s, impl.WireBad)
	}
}

func TestNextMessageOfEachSize(t *testing.T) {
	body := strings.Repeat("0123456789", 600)
	for size := range 12000 {
		head := aheadOfSize + strconv.Itoa(size)
		wantNext(t, aheadOfSize+"0"+strconv.Itoa(size)+behindSize+body, next{Said: impl.WireBad})
		if size > 5000 {
			wantNext(t, head, next{Said: impl.WireBad})
			wantNext(t, head+behindSize, next{Said: impl.WireBad})
			wantNext(t, head+behindSize+body, next{Said: impl.WireBad})
			continue
		}
		wantNext(t, head, next{Said: impl.WireMore})
		wantNext(t, head+behindSize+body, next{body[:size], len(head) + 4 + size, impl.WireOk})
		if size > 0 {
			wantNext(t, head+behindSize+body[:size-1], next{Said: impl.WireMore})
		}
	}
}

func TestNextMessageOfLineEnds(t *testing.T) {
	for _, size := range []string{"0", "1", "2", "5", "50", "500", "5000"} {
		head := aheadOfSize + size
		for end := range 4 {
			wantWireCode(t, head+behindSize[:end], impl.WireMore)
			for b := range 256 {
				isDigit := end == 0 && b >= '0' && b <= '9'
				if byte(b) == behindSize[end] || isDigit {
					continue
				}
				other := head + behindSize[:end] + string([]byte{byte(b)})
				wantNext(t, other, next{Said: impl.WireBad})
				wantNext(t, other+behindSize[end+1:]+strings.Repeat("x", 5000), next{Said: impl.WireBad})
				wantNext(t, other+behindSize[end:]+"x", next{Said: impl.WireBad})
			}
		}
		for _, ends := range []string{"\n", "\n\n", "\r\r", "\r\n\n", "\r\n\r\r", "\n\r", "\n\r\n\r", "\r\r\n\n", "\r\n \r\n", "\r\nx", "\r\n" + aheadOfSize} {
			wantWireCode(t, head+ends, impl.WireBad)
			wantWireCode(t, head+ends+"xxxxxx", impl.WireBad)
		}
	}
}

func TestNextMessageOfBodies(t *testing.T) {
	wantNext(t, "Content-Length: 0\r\n\r\n", next{"", 21, impl.WireOk})
	wantNext(t, "Content-Length: 0\r\n\r\nx", next{"", 21, impl.WireOk})
	wantNext(t, "Content-Length: 3\r\n\r\nrun", next{"run", 24, impl.WireOk})
	wantNext(t, "Content-Length: 3\r\n\r\nrunx", next{"run", 24, impl.WireOk})
	wantNext(t, "Content-Length: 3\r\n\r\nrunContent-Length: 3\r\n\r\nout", next{"run", 24, impl.WireOk})
	wantNext(t, "Content-Length: 10\r\n\r\n\r\n\x00\xff\"\\ run", next{"\r\n\x00\xff\"\\ run", 32, impl.WireOk})
	wantWireCode(t, "Content-Length: 3\r\n\r\n", impl.WireMore)
	wantWireCode(t, "Content-Length: 3\r\n\r\nr", impl.WireMore)
	wantWireCode(t, "Content-Length: 3\r\n\r\nru", impl.WireMore)
	for _, size := range []int{1, 2, 9, 10, 11, 99, 100, 101, 999, 1000, 1001, 4999, 5000} {
		body := strings.Repeat("\x0d\x0a", 2500)[:size]
		wantThrough(t, body, "")
		wantThrough(t, body, "x")
		wantWireCode(t, elderPut(size, body[1:]), impl.WireMore)
		wantWireCode(t, elderPut(size, ""), impl.WireMore)
	}
	// Sizes count bytes, not what they spell.
	wantNext(t, "Content-Length: 2\r\n\r\nää", next{"ä", 23, impl.WireOk})
	wantNext(t, "Content-Length: 1\r\n\r\nä", next{"\xc3", 22, impl.WireOk})
}

// messagesInRow are so many messages with the numbers from 0 on for bodies.
func messagesInRow(count int) (string, stream) {
	var s strings.Builder
	var want stream
	for i := range count {
		body := strconv.Itoa(i)
		want.Bodies = append(want.Bodies, body)
		s.WriteString(elderPut(len(body), body))
	}
	want.Count = s.Len()
	return s.String(), want
}

func TestMessagesOfSome(t *testing.T) {
	wantStream(t, "", stream{})
	for _, count := range []int{1, 2, 3, 10, 50, 98, 99} {
		s, want := messagesInRow(count)
		wantStream(t, s, want)
		for _, c := range []struct {
			behind string
			said   int
		}{
			{"C", impl.WireMore}, {"Content-Length: ", impl.WireMore}, {"Content-Length: 5", impl.WireMore}, {"Content-Length: 5\r", impl.WireMore}, {"Content-Length: 5\r\n\r\n1234", impl.WireMore},
			{"x", impl.WireBad}, {"\n", impl.WireBad}, {"0", impl.WireBad}, {"\r\n", impl.WireBad}, {"\x00", impl.WireBad}, {"content-length: 0\r\n\r\n", impl.WireBad}, {"Content-Length: 00\r\n\r\n", impl.WireBad}, {"Content-Length: 5001", impl.WireBad},
		} {
			want.Said = c.said
			wantStream(t, s+c.behind, want)
			wantStream(t, c.behind, stream{Said: c.said})
		}
		// Nothing is looked for behind what is bad.
		want.Said = impl.WireBad
		wantStream(t, s+"x"+s, want)
		wantStream(t, "x"+s, stream{Said: impl.WireBad})
	}
	empty := elderPut(0, "")
	wantStream(t, empty, stream{Bodies: []string{""}, Count: 21})
	wantStream(t, empty+empty+"Con", stream{Bodies: []string{"", ""}, Count: 42, Said: impl.WireMore})
}

func TestMessagesOfAHundred(t *testing.T) {
	hundred, want := messagesInRow(100)
	for _, behind := range []string{
		"", "C", "Content-Length: 5\r\n\r\n1234", "x", "\x00", "Content-Length: 00", "Content-Length: 5001", elderPut(0, ""), elderPut(3, "run"), elderPut(3, "run") + "x", hundred, hundred + "x",
	} {
		wantStream(t, hundred+behind, want)
	}
	for _, count := range []int{100, 101, 102, 199, 200, 201, 250} {
		s, _ := messagesInRow(count)
		wantStream(t, s, want)
	}
	var empties, large stream
	for range 100 {
		empties.Bodies = append(empties.Bodies, "")
		large.Bodies = append(large.Bodies, strings.Repeat("\n", 5000))
	}
	empties.Count, large.Count = 2100, 100*5024
	wantStream(t, strings.Repeat(elderPut(0, ""), 101), empties)
	wantStream(t, strings.Repeat(elderPut(5000, large.Bodies[0]), 101), large)
	// What is left is told by asking again.
	s, _ := messagesInRow(230)
	first := messagesOf(t, s)
	second := messagesOf(t, s[first.Count:])
	third := messagesOf(t, s[first.Count+second.Count:])
	if first.Bodies[99] != "99" || second.Bodies[0] != "100" || len(second.Bodies) != 100 || len(third.Bodies) != 30 || third.Bodies[29] != "229" || first.Count+second.Count+third.Count != len(s) {
		t.Error("the rest", first, second, third)
	}
}

func TestCmdText(t *testing.T) {
	for _, word := range bareWords {
		wantCmdText(t, impl.Cmd{Word: word}, word)
		// What a word doesn't have is not told, be it as it is.
		for _, n := range []int{1, -1, 999999, 1000000, math.MinInt, math.MaxInt} {
			wantCmdText(t, impl.Cmd{Word: word, N: n}, word)
			wantCmdText(t, impl.Cmd{Word: word, N: n, Text: "x"}, word)
		}
		wantCmdText(t, impl.Cmd{Word: word, Text: " "}, word)
	}
	for _, word := range numberWords {
		for n, text := range map[int]string{0: "0", 1: "1", 9: "9", 10: "10", 99: "99", 100: "100", 123456: "123456", 999998: "999998", 999999: "999999"} {
			wantCmdText(t, impl.Cmd{Word: word, N: n}, word+" "+text)
			wantCmdText(t, impl.Cmd{Word: word, N: n, Text: "x"}, word+" "+text)
		}
		for _, n := range []int{-1, -2, -9, -999999, math.MinInt, math.MinInt + 1, 1000000, 1000001, 9999999, 1 << 32, math.MaxInt} {
			wantCmdText(t, impl.Cmd{Word: word, N: n}, "")
			wantCmdText(t, impl.Cmd{Word: word, N: n, Text: "1"}, "")
		}
	}
	for _, word := range textWords {
		for _, text := range []string{"", " ", "x", " x", "x ", "  x  ", "\n", "x\ny\n", "\r\n", "0", "-1", "run", word, word + " x", "\x00", "\xff\xfe", "ä", "\"", strings.Repeat("x", 5001)} {
			for _, n := range []int{0, 1, -1, 1000000, math.MinInt, math.MaxInt} {
				wantCmdText(t, impl.Cmd{Word: word, N: n, Text: text}, word+" "+text)
			}
		}
	}
}

func TestCmdTextOfNoCommand(t *testing.T) {
	words := []string{"", " ", "what", "none", "bad", "x", "runs", "ru", "un", "re", "stop", "launch x", "show x", "break 1", "quit", "0", "\x00", "\xff", "run\x00", "lauch", "local", "line", "exit", "rerunrun"}
	for _, word := range allCommands {
		words = append(words, strings.ToUpper(word), strings.ToUpper(word[:1])+word[1:], word+" ", " "+word, word+"\n", word+"\t", "\""+word+"\"", word+word, word[1:]+word[:1])
	}
	for _, word := range words {
		for _, n := range []int{0, 1, -1, math.MaxInt} {
			wantCmdText(t, impl.Cmd{Word: word, N: n}, "")
			wantCmdText(t, impl.Cmd{Word: word, N: n, Text: "x"}, "")
		}
	}
}

func TestReadCmd(t *testing.T) {
	for _, c := range []struct {
		s    string
		want impl.Cmd
	}{
		{"clear", impl.Cmd{Word: "clear"}}, {"run", impl.Cmd{Word: "run"}}, {"rerun", impl.Cmd{Word: "rerun"}},
		{"over", impl.Cmd{Word: "over"}}, {"out", impl.Cmd{Word: "out"}}, {"where", impl.Cmd{Word: "where"}},
		{"lines", impl.Cmd{Word: "lines"}}, {"output", impl.Cmd{Word: "output"}}, {"report", impl.Cmd{Word: "report"}},
		{"break 0", impl.Cmd{Word: "break"}}, {"break 12", impl.Cmd{Word: "break", N: 12}}, {"step 1", impl.Cmd{Word: "step", N: 1}},
		{"step 999999", impl.Cmd{Word: "step", N: 999999}}, {"back 3000", impl.Cmd{Word: "back", N: 3000}}, {"locals 30", impl.Cmd{Word: "locals", N: 30}},
		{"show ", impl.Cmd{Word: "show"}}, {"show x", impl.Cmd{Word: "show", Text: "x"}}, {"show  x", impl.Cmd{Word: "show", Text: " x"}},
		{"show 12", impl.Cmd{Word: "show", Text: "12"}}, {"changed x ", impl.Cmd{Word: "changed", Text: "x "}}, {"changed  ", impl.Cmd{Word: "changed", Text: " "}},
		{"launch ", impl.Cmd{Word: "launch"}}, {"launch \n", impl.Cmd{Word: "launch", Text: "\n"}}, {"launch launch x", impl.Cmd{Word: "launch", Text: "launch x"}},
		{"launch local x = 1\nprint(x)\n", impl.Cmd{Word: "launch", Text: "local x = 1\nprint(x)\n"}}, {"launch \xff\x00", impl.Cmd{Word: "launch", Text: "\xff\x00"}},
	} {
		wantRead(t, c.s, reading{c.want, true})
	}
}

func TestReadCmdOfNoCommand(t *testing.T) {
	for _, s := range []string{"", " ", "  ", "\n", "0", "1", " 1", "x", " x", "what", "what 1", "\x00", "\xff"} {
		wantRead(t, s, reading{})
	}
	for _, word := range bareWords {
		for _, behind := range []string{" ", "  ", " 0", " 1", " x", "\n", "\r\n", "\t", "0", "1", "x", " " + word, "\x00", ";"} {
			wantRead(t, word+behind, reading{})
		}
	}
	for _, word := range numberWords {
		for _, behind := range []string{
			"", " ", "  ", " x", " 1x", " x1", " 0x1", " 1e3", " 1.0", " 1_0", " 01", " 00", " 007", " 0000001", " +1", " +0", " -0", " -1", " 1 ", " 1\n", " 1\r\n", " 1 1", "  1", "\t1", "\n1", "1", " \t1",
			" 1000000", " 1000001", " 9999999", " 0999999", " 9223372036854775807", " 9223372036854775808", " 18446744073709551616", " 18446744073709551617", " 99999999999999999999", " -9223372036854775808",
			" \u0661", " \uff11", " 1\u0661", " \u00b2", " \xff", " \x00", " \x001", " 1\x00", " \"1\"", " " + word, " " + strings.Repeat("1", 5000), " " + strings.Repeat("0", 5000),
		} {
			wantRead(t, word+behind, reading{})
		}
	}
	for _, word := range textWords {
		for _, behind := range []string{"", "\tx", "\nx", "x", ".x", "\u00a0x", "(x)", "\x00"} {
			wantRead(t, word+behind, reading{})
		}
	}
	for _, word := range allCommands {
		for _, behind := range []string{"", " ", " 1", " x"} {
			for _, other := range []string{" " + word, "\n" + word, strings.ToUpper(word), strings.ToUpper(word[:1]) + word[1:], word[:len(word)-1] + strings.ToUpper(word[len(word)-1:]), word[1:]} {
				wantRead(t, other+behind, reading{})
			}
		}
	}
}
