package tests

import (
	"slices"
	"strings"
	"sync"
	"testing"

	"loop.example/g00258/impl"
)

// bytesOf are so many bytes, of which some are those of a message's own make.
func (d *dice) bytesOf(count int) string {
	special := "\x00\n\r\"\xff0159:- C"
	out := make([]byte, count)
	for i := range out {
		if d.below(2) == 0 {
			out[i] = special[d.below(len(special))]
		} else {
			out[i] = byte(d.below(256))
		}
	}
	return string(out)
}

// likeMessages are texts that a message may be taken for, or a piece of one.
var likeMessages = []string{
	"", "0", "5", "00", "C", "Content-Length", "Content-Length:", aheadOfSize, aheadOfSize + "5", aheadOfSize + "5000", aheadOfSize + "5001", aheadOfSize + "00", aheadOfSize + "5\r", aheadOfSize + "5\r\n",
	"\r", "\n", "\r\n", "\r\n\r", behindSize, behindSize + behindSize, aheadOfSize + "0" + behindSize, aheadOfSize + "3" + behindSize + "ru", aheadOfSize + "3" + behindSize + "run",
	aheadOfSize + "24" + behindSize + aheadOfSize + "3" + behindSize + "run", aheadOfSize + "5000" + behindSize, "\x00", "\xff", "\"", "run", "x" + aheadOfSize, "content-length: 0\r\n\r\n",
}

// Promise 10: each size, with any bytes in it and behind it.
func TestEachSizeComesBack(t *testing.T) {
	t.Parallel()
	d := dice{seed: 10}
	for size := range 5001 {
		body := d.bytesOf(size)
		wantThrough(t, body, "")
		wantThrough(t, body, likeMessages[d.below(len(likeMessages))])
		wantThrough(t, body, d.bytesOf(d.below(40)))
		wantThrough(t, body, impl.PutMessage(body))
	}
}

func TestBodiesLikeMessagesComeBack(t *testing.T) {
	t.Parallel()
	for _, body := range likeMessages {
		for _, behind := range likeMessages {
			wantThrough(t, body, behind)
			wantThrough(t, body+behind, body)
			wantThrough(t, impl.PutMessage(body)+behind, behind)
			for _, more := range []string{behindSize, "x", aheadOfSize + "1" + behindSize + "x"} {
				wantThrough(t, body+more, behind+more)
			}
		}
	}
	for b := range 256 {
		one := string([]byte{byte(b)})
		for _, other := range []string{"", "\x00", "\n", "\r", "\"", "\xff", "0"} {
			wantThrough(t, one, other)
			wantThrough(t, one+other, one)
			wantThrough(t, other, one)
		}
	}
}

// Each beginning of a message might go on.
func TestBeginningsOfMessages(t *testing.T) {
	t.Parallel()
	d := dice{seed: 11}
	for size := range 5001 {
		message := impl.PutMessage(d.bytesOf(size))
		whole := size <= 120 || size%500 == 0 || size >= 4999
		for end := 0; end < len(message); end++ {
			if !whole && end > 30 {
				end = min(end+d.below(2000), len(message)-1)
			}
			wantNext(t, message[:end], next{Said: impl.WireMore})
		}
	}
}

// wantSecondNext asks of a text of any make what there is at its beginning, and counts by what was said.
func wantSecondNext(t *testing.T, s string, met *[3]int) {
	t.Helper()
	want := elderNext(s)
	wantNext(t, s, want)
	met[want.Said]++
}

// oneByteAway tells each text that is one byte away from s: changed, left out, put in.
func oneByteAway(s string, yield func(s string)) {
	for at := range len(s) + 1 {
		for b := range 256 {
			one := string([]byte{byte(b)})
			yield(s[:at] + one + s[at:])
			if at < len(s) && s[at] != byte(b) {
				yield(s[:at] + one + s[at+1:])
			}
		}
		if at < len(s) {
			yield(s[:at] + s[at+1:])
		}
	}
}

func TestMessagesOneByteAway(t *testing.T) {
	t.Parallel()
	var met [3]int
	for _, s := range []string{elderPut(0, ""), elderPut(3, "run"), elderPut(12, "step 3\r\nxyz"), elderPut(3, "run") + elderPut(0, ""), aheadOfSize + "500"} {
		oneByteAway(s, func(s string) { wantSecondNext(t, s, &met) })
	}
	if met[impl.WireOk] < 2000 || met[impl.WireMore] < 1000 || met[impl.WireBad] < 20000 {
		t.Error("too few are right, begun or bad:", met)
	}
}

// wirePieces are such that messages come to be by chance.
var wirePieces = append([]string{aheadOfSize, aheadOfSize, aheadOfSize, "1", "2", "4", "10", "12", behindSize, behindSize, behindSize, " ", "-", "x", "abcdefghijkl"}, likeMessages...)

func TestNextMessageOfAnyPieces(t *testing.T) {
	t.Parallel()
	d := dice{seed: 12}
	var met [3]int
	for range 6000 {
		wantSecondNext(t, d.join(wirePieces, d.below(7)), &met)
		wantSecondNext(t, aheadOfSize+d.join(wirePieces, d.below(7)), &met)
		wantSecondNext(t, aheadOfSize+d.sizeText()+behindSize+d.bytesOf(d.below(60)), &met)
	}
	if met[impl.WireOk] < 1500 || met[impl.WireMore] < 3000 || met[impl.WireBad] < 5000 {
		t.Error("too few are right, begun or bad:", met)
	}
}

// sizeText is a size, mostly a small one, sometimes with something wrong about it.
func (d *dice) sizeText() string {
	size := impl.DecText(d.below([]int{10, 60, 600, 6000, 60000}[d.below(5)]))
	if d.rarely(6) {
		size = []string{"0", "+", "-", " ", "x"}[d.below(5)] + size
	}
	return size
}

// Promise 10: many messages one behind the other are their bodies, wherever they are cut.
func TestManyMessagesComeBack(t *testing.T) {
	t.Parallel()
	d := dice{seed: 13}
	var met [3]int
	for range 400 {
		var s strings.Builder
		var all stream
		for range d.below(105) {
			body := d.bytesOf(d.below([]int{1, 5, 30, 5001}[d.below(4)]))
			if d.below(3) == 0 {
				body = likeMessages[d.below(len(likeMessages))]
			}
			s.WriteString(impl.PutMessage(body))
			if len(all.Bodies) < 100 {
				all.Bodies = append(all.Bodies, body)
				all.Count = s.Len()
			}
		}
		wantStream(t, s.String(), all)
		for range 3 {
			cut := s.String()
			if d.below(2) == 0 {
				cut = cut[:d.below(len(cut)+1)]
			}
			for _, behind := range []string{"", likeMessages[d.below(len(likeMessages))], d.bytesOf(d.below(30))} {
				want := elderMessages(cut + behind)
				wantStream(t, cut+behind, want)
				met[want.Said]++
			}
		}
	}
	if slices.Min(met[:]) < 200 {
		t.Error("too few are right, begun or bad:", met)
	}
}

func TestMessagesCutAnywhere(t *testing.T) {
	t.Parallel()
	whole := elderPut(3, "run") + elderPut(0, "") + elderPut(7, "\r\nshow ") + elderPut(24, elderPut(3, "out")) + elderPut(1, "0") + "x" + elderPut(3, "run")
	for end := range len(whole) + 1 {
		wantStream(t, whole[:end], elderMessages(whole[:end]))
		wantStream(t, whole[end:], elderMessages(whole[end:]))
	}
}

// Promise 10: a command comes back from its text, and what it doesn't tell is zero.
func TestAnyCommandsComeBack(t *testing.T) {
	t.Parallel()
	d := dice{seed: 14}
	for _, word := range allCommands {
		for n := -20; n < 3000; n++ {
			c := impl.Cmd{Word: word, N: n, Text: d.bytesOf(d.below(12))}
			wantCmdText(t, c, elderText(c))
		}
		for range 2000 {
			c := impl.Cmd{Word: word, N: d.below(1100000), Text: d.bytesOf(d.below(40))}
			wantCmdText(t, c, elderText(c))
		}
		for range 20 {
			c := impl.Cmd{Word: word, N: d.below(1000000), Text: d.bytesOf(6000)}
			wantCmdText(t, c, elderText(c))
		}
	}
}

func TestEachNumberOfACommand(t *testing.T) {
	t.Parallel()
	for n := 0; n <= 1000000; n += 7 {
		for at, word := range numberWords {
			s := word + " " + impl.DecText(n+at)
			c, ok := impl.ReadCmd(s)
			if n+at > 999999 {
				if ok || c != (impl.Cmd{}) || impl.CmdText(impl.Cmd{Word: word, N: n + at}) != "" {
					t.Fatal(s, c, ok)
				}
				continue
			}
			if !ok || c != (impl.Cmd{Word: word, N: n + at}) || impl.CmdText(c) != s {
				t.Fatal(s, c, ok)
			}
		}
	}
}

func TestCommandsOneByteAway(t *testing.T) {
	t.Parallel()
	right, wrong := 0, 0
	for _, word := range allCommands {
		c := impl.Cmd{Word: word, N: 120, Text: "x y"}
		for _, s := range []string{impl.CmdText(c), word, word + " ", word + " 0", word + " 999999"} {
			oneByteAway(s, func(s string) {
				want := elderReading(s)
				wantRead(t, s, want)
				if want.Ok {
					right++
				} else {
					wrong++
				}
			})
		}
	}
	if right < 5000 || wrong < 200000 {
		t.Error("too few are right or wrong:", right, wrong)
	}
}

func TestReadCmdOfAnyPieces(t *testing.T) {
	t.Parallel()
	pieces := append([]string{" ", " ", " ", " ", "0", "1", "9", "12", "999999", "-", "+", "x", "\n", "\r\n", "\x00", "\xff", "\u0661"}, allCommands...)
	d := dice{seed: 15}
	right := 0
	for range 60000 {
		s := d.join(pieces, d.below(5))
		if d.below(2) == 0 {
			s = allCommands[d.below(len(allCommands))] + s
		}
		want := elderReading(s)
		wantRead(t, s, want)
		if want.Ok {
			right++
		}
		wantRead(t, d.bytesOf(d.below(12)), reading{})
	}
	if right < 5000 {
		t.Error("too few are right:", right)
	}
}

// Words of any make: none but the sixteen have a text.
func TestCmdTextOfAnyWords(t *testing.T) {
	t.Parallel()
	d := dice{seed: 16}
	for _, word := range allCommands {
		oneByteAway(word, func(s string) {
			c := impl.Cmd{Word: s, N: d.below(10), Text: "x"}
			want := ""
			if slices.Contains(allCommands, s) {
				want = elderText(c)
			}
			wantCmdText(t, c, want)
		})
	}
}

// What is answered shares no memory with what was answered before, so what is written into it, or behind it, is seen nowhere else.
func TestMessagesAreNewMemory(t *testing.T) {
	s := elderPut(3, "run") + elderPut(0, "") + elderPut(3, "run") + elderPut(7, "show x\n") + "Con"
	first, second := messagesOf(t, s), messagesOf(t, s)
	wantOwnMemory(t, first, second, s)
	wantOwnMemory(t, messagesOf(t, first.Bodies[0]), first)
	want := elderMessages(s)
	first.Bodies[0] = "other"
	_ = append(first.Bodies, "behind")
	_ = append(first.Bodies[:1], "other")
	if !second.same(want) || !messagesOf(t, s).same(want) {
		t.Error("two answers share memory", second)
	}
	a, b := nextOf(t, s), nextOf(t, s)
	wantOwnMemory(t, a, b, first, s)
	wantOwnMemory(t, nextOf(t, putOf(t, a.Body)), a)
	body := strings.Clone("a body")
	wantOwnMemory(t, impl.PutMessage(body), impl.PutMessage(body), body)
	for _, word := range allCommands {
		c := impl.Cmd{Word: strings.Clone(word), N: 12, Text: strings.Clone("text")}
		wantOwnMemory(t, impl.CmdText(c), impl.CmdText(c), c)
		line := impl.CmdText(c)
		read, ok := impl.ReadCmd(line)
		again, _ := impl.ReadCmd(line)
		if !ok {
			t.Fatal(line)
		}
		wantOwnMemory(t, read, again, line, c)
		wantOwnMemory(t, impl.CmdText(read), read, line, c)
	}
}

// Nothing is kept from call to call, nor between two at the same time.
func TestMessagesKeepNothing(t *testing.T) {
	stream, want := messagesInRow(90)
	telling := func() bool {
		bodies, count, said := impl.Messages(stream)
		body, size, code := impl.NextMessage(aheadOfSize + "2" + behindSize + "xyz")
		c, ok := impl.ReadCmd("locals 3")
		return slices.Equal(bodies, want.Bodies) && count == want.Count && said == impl.WireOk &&
			body == "xy" && size == 23 && code == impl.WireOk && ok && c == impl.Cmd{Word: "locals", N: 3} && impl.CmdText(c) == "locals 3"
	}
	var all sync.WaitGroup
	for range 8 {
		all.Go(func() {
			for round := range 200 {
				impl.NextMessage(aheadOfSize + impl.DecText(round))
				impl.Messages("x")
				impl.ReadCmd("show " + impl.DecText(round))
				impl.CmdText(impl.Cmd{Word: "what", N: round})
				impl.PutMessage(impl.DecText(round))
				if !telling() {
					t.Error("another answer")
				}
			}
		})
	}
	all.Wait()
}
