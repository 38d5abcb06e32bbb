package tests

import (
	"fmt"
	"regexp"
	"slices"
	"strings"
	"sync"
	"testing"

	"loop.example/g00258/impl"
)

// elderHeads are what stands ahead of all bodies, by their sizes: with so few of them one needs to read none.
var elderHeads = sync.OnceValue(func() []string {
	var heads []string
	for size := range 5001 {
		heads = append(heads, elderPut(size, ""))
	}
	return heads
})

func elderPut(size int, body string) string {
	return fmt.Sprintf("Content-Length: %d%c%c%c%c%s", size, 13, 10, 13, 10, body)
}

// A next is what NextMessage answers.
type next struct {
	Body  string
	Count int
	Said  int
}

// elderNext holds a text against each message that there could be. A second opinion.
func elderNext(s string) next {
	told := next{Said: impl.WireBad}
	for size, head := range elderHeads() {
		whole := len(head) + size
		switch {
		case strings.HasPrefix(s, head) && len(s) >= whole:
			return next{s[len(head):whole], whole, impl.WireOk}
		case strings.HasPrefix(s, head) || strings.HasPrefix(head, s):
			told.Said = impl.WireMore
		}
	}
	return told
}

// A stream is what Messages answers.
type stream struct {
	Bodies []string
	Count  int
	Said   int
}

func elderMessages(s string) stream {
	var told stream
	for s != "" && len(told.Bodies) < 100 {
		n := elderNext(s)
		if n.Said != impl.WireOk {
			told.Said = n.Said
			break
		}
		told.Bodies = append(told.Bodies, n.Body)
		told.Count += n.Count
		s = s[n.Count:]
	}
	return told
}

func (s stream) same(other stream) bool {
	return slices.Equal(s.Bodies, other.Bodies) && s.Count == other.Count && s.Said == other.Said
}

// textAsked asks something of a text of its own, which must stay as it is; what is told is in memory of its own.
func textAsked[T any](t *testing.T, s string, ask func(s string) T) T {
	t.Helper()
	given := strings.Clone(s)
	answer := ask(given)
	if given != s {
		t.Fatalf("written into %.200q", s)
	}
	wantOwnMemory(t, answer, given)
	return answer
}

func putOf(t *testing.T, body string) string {
	t.Helper()
	return textAsked(t, body, impl.PutMessage)
}

func nextOf(t *testing.T, s string) next {
	t.Helper()
	return textAsked(t, s, func(s string) next {
		body, count, said := impl.NextMessage(s)
		return next{body, count, said}
	})
}

func messagesOf(t *testing.T, s string) stream {
	t.Helper()
	return textAsked(t, s, func(s string) stream {
		bodies, count, said := impl.Messages(s)
		return stream{bodies, count, said}
	})
}

func wantNext(t *testing.T, s string, want next) {
	t.Helper()
	if got := nextOf(t, s); got != want {
		t.Fatalf("NextMessage of %.200q: %.200q %d %d, not %.200q %d %d", s, got.Body, got.Count, got.Said, want.Body, want.Count, want.Said)
	}
}

// wantWireCode asks of a text that begins with no message: beside the code all is zero.
func wantWireCode(t *testing.T, s string, want int) {
	t.Helper()
	wantNext(t, s, next{Said: want})
	if got := elderNext(s); got != (next{Said: want}) {
		t.Fatalf("the second opinion of %.200q: %v", s, got)
	}
}

func wantStream(t *testing.T, s string, want stream) {
	t.Helper()
	if got := messagesOf(t, s); !got.same(want) {
		t.Fatalf("Messages of %.200q: %.200q %d %d, not %.200q %d %d", s, got.Bodies, got.Count, got.Said, want.Bodies, want.Count, want.Said)
	}
}

// wantThrough asks for promise 10 of one body, with these bytes behind it.
func wantThrough(t *testing.T, body string, behind string) {
	t.Helper()
	message := putOf(t, body)
	if want := elderPut(len(body), body); message != want {
		t.Fatalf("PutMessage of %.200q: %.200q, not %.200q", body, message, want)
	}
	wantNext(t, message+behind, next{body, len(message), impl.WireOk})
}

var (
	bareWords   = strings.Fields("clear run rerun over out where lines output report")
	numberWords = strings.Fields("break step back locals")
	textWords   = strings.Fields("launch show changed")
	allCommands = slices.Concat(bareWords, numberWords, textWords)
)

var (
	bareShape   = regexp.MustCompile(`^(?:` + strings.Join(bareWords, "|") + `)$`)
	numberShape = regexp.MustCompile(`^(` + strings.Join(numberWords, "|") + `) (0|[1-9][0-9]{0,5})$`)
	textShape   = regexp.MustCompile(`(?s)^(` + strings.Join(textWords, "|") + `) (.*)$`)
)

// A reading is what ReadCmd answers.
type reading struct {
	Cmd impl.Cmd
	Ok  bool
}

// elderReading knows commands by their shapes.
func elderReading(s string) reading {
	if bareShape.MatchString(s) {
		return reading{impl.Cmd{Word: s}, true}
	}
	if parts := numberShape.FindStringSubmatch(s); parts != nil {
		c := impl.Cmd{Word: parts[1]}
		for _, digit := range []byte(parts[2]) {
			c.N = 10*c.N + int(digit-'0')
		}
		return reading{c, true}
	}
	if parts := textShape.FindStringSubmatch(s); parts != nil {
		return reading{impl.Cmd{Word: parts[1], Text: parts[2]}, true}
	}
	return reading{}
}

func elderText(c impl.Cmd) string {
	switch {
	case slices.Contains(bareWords, c.Word):
		return c.Word
	case slices.Contains(numberWords, c.Word) && c.N >= 0 && c.N < 1000000:
		return fmt.Sprintf("%s %d", c.Word, c.N)
	case slices.Contains(textWords, c.Word):
		return fmt.Sprintf("%s %s", c.Word, c.Text)
	}
	return ""
}

// plainCmd is what of a command its text tells.
func plainCmd(c impl.Cmd) impl.Cmd {
	if !slices.Contains(numberWords, c.Word) {
		c.N = 0
	}
	if !slices.Contains(textWords, c.Word) {
		c.Text = ""
	}
	return c
}

func cmdTextOf(t *testing.T, c impl.Cmd) string {
	t.Helper()
	given := copyOf(c)
	s := impl.CmdText(given)
	if given != c {
		t.Fatalf("written into %v", c)
	}
	wantOwnMemory(t, s, given)
	return s
}

func readOf(t *testing.T, s string) reading {
	t.Helper()
	return textAsked(t, s, func(s string) reading {
		c, ok := impl.ReadCmd(s)
		return reading{c, ok}
	})
}

// wantCmdText also asks for promise 10 of a command that has a text.
func wantCmdText(t *testing.T, c impl.Cmd, want string) {
	t.Helper()
	got := cmdTextOf(t, c)
	if got != want || elderText(c) != want {
		t.Fatalf("CmdText of %.200q %d %.200q: %.200q, not %.200q", c.Word, c.N, c.Text, got, want)
	}
	if want != "" {
		wantRead(t, want, reading{plainCmd(c), true})
	}
}

func wantRead(t *testing.T, s string, want reading) {
	t.Helper()
	got := readOf(t, s)
	if got != want || elderReading(s) != want {
		t.Fatalf("ReadCmd of %.200q: %v, not %v", s, got, want)
	}
	if got.Ok && cmdTextOf(t, got.Cmd) != s {
		t.Fatalf("%.200q is read as %v, whose text it is not", s, got.Cmd)
	}
}
