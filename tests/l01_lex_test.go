package tests

import (
	"fmt"
	"regexp"
	"strconv"
	"strings"
	"testing"

	"loop.example/g00258/impl"
)

var keywords = strings.Fields("and break do else end false function if local nil not or return then true while")

var signs = strings.Fields("== ~= <= >= // .. + - * % < > = ( ) { } [ ] , . ; #")

func name(text string, line int) impl.Token {
	return impl.Token{Kind: impl.TokName, Text: text, Line: line}
}

func number(n int, line int) impl.Token {
	return impl.Token{Kind: impl.TokNumber, N: n, Line: line}
}

func text(s string, line int) impl.Token {
	return impl.Token{Kind: impl.TokText, Text: s, Line: line}
}

func sign(s string, line int) impl.Token {
	return impl.Token{Kind: impl.TokSign, Text: s, Line: line}
}

func word(s string, line int) impl.Token {
	return impl.Token{Kind: impl.TokWord, Text: s, Line: line}
}

func sameTokens(a []impl.Token, b []impl.Token) bool {
	if len(a) != len(b) {
		return false
	}
	for i := range a {
		if a[i] != b[i] {
			return false
		}
	}
	return true
}

// wantWords asks for these words, without a refusal.
func wantWords(t *testing.T, src string, want ...impl.Token) {
	t.Helper()
	got, line := impl.Lex(src)
	if line != 0 || !sameTokens(got, want) {
		t.Fatalf("Lex of %.80q (%d bytes): %.300s %d, not %.300s", src, len(src), fmt.Sprint(got), line, fmt.Sprint(want))
	}
}

// wantRefusal asks for no words and that line.
func wantRefusal(t *testing.T, src string, want int) {
	t.Helper()
	got, line := impl.Lex(src)
	if line != want || len(got) != 0 {
		t.Fatalf("Lex of %.80q (%d bytes): %.300s %d, not line %d", src, len(src), fmt.Sprint(got), line, want)
	}
}

func TestConstantsOfWords(t *testing.T) {
	got := []int{impl.TokName, impl.TokNumber, impl.TokText, impl.TokSign, impl.TokWord, impl.MaxSource}
	want := []int{0, 1, 2, 3, 4, 4000}
	for i := range want {
		if got[i] != want[i] {
			t.Error("constant", i, got[i])
		}
	}
}

func TestIsKeyword(t *testing.T) {
	for _, k := range keywords {
		for _, s := range []string{strings.ToUpper(k), k + "s", k[1:] + k[:1], k[:len(k)-1], k + " ", " " + k, k + "\n", k + "\x00"} {
			if impl.IsKeyword(s) {
				t.Errorf("%q is no keyword", s)
			}
		}
		if !impl.IsKeyword(k) {
			t.Errorf("%q is a keyword", k)
		}
	}
	for _, s := range []string{"", "for", "in", "repeat", "until", "elseif", "goto", "x", "_", "1", "==", "\xff", strings.Repeat("and", 9999)} {
		if impl.IsKeyword(s) {
			t.Errorf("%.20q is no keyword", s)
		}
	}
}

func TestLexNothing(t *testing.T) {
	for _, src := range []string{"", " ", "\t", "\n", " \t\n\t ", "--", "---", "-- a", "--\n", "-- \x00\xff\r\"\\~\n\n", "--a\n--b"} {
		wantWords(t, src)
	}
}

func TestLexLengthOfSource(t *testing.T) {
	for _, s := range []string{" ", "\n", "a", "1 ", "+", "\"\"", "--", "~", "\x00"} {
		full := strings.Repeat(s, impl.MaxSource/len(s))
		wantRefusal(t, full+" ", 1)
		wantRefusal(t, full+full, 1)
	}
	a := strings.Repeat("a", impl.MaxSource)
	wantWords(t, a, name(a, 1))
	wantWords(t, strings.Repeat("\n", impl.MaxSource))
	wantWords(t, strings.Repeat("\n", impl.MaxSource-1)+";", sign(";", impl.MaxSource))
	wantRefusal(t, strings.Repeat("\n", impl.MaxSource-1)+"~", impl.MaxSource)
	wantWords(t, "--"+a[2:])
	wantWords(t, "\""+a[2:]+"\"", text(a[2:], 1))
	wantRefusal(t, "\""+a[1:], 1)
	if list, line := impl.Lex(strings.Repeat("+", impl.MaxSource)); line != 0 || len(list) != impl.MaxSource {
		t.Error("a source of signs", len(list), line)
	}
}

func TestLexNames(t *testing.T) {
	for _, s := range []string{"a", "z", "A", "Z", "_", "__", "a0", "z9", "_0", "And", "ifx", "if_", "if0", "endend", "_nil", "xABCz09_"} {
		wantWords(t, s, name(s, 1))
	}
	for _, k := range keywords {
		wantWords(t, k, word(k, 1))
		wantWords(t, k+"1 1"+k+" x"+k, name(k+"1", 1), number(1, 1), word(k, 1), name("x"+k, 1))
	}
	wantWords(t, "a.b", name("a", 1), sign(".", 1), name("b", 1))
}

func TestLexNumbers(t *testing.T) {
	nought := func(n int) string { return strings.Repeat("0", n) }
	for _, c := range []struct {
		digits string
		n      int
	}{
		{"0", 0}, {"00", 0}, {nought(18), 0}, {"7", 7}, {"007", 7}, {"1234567890", 1234567890}, {"0123456789", 123456789},
		{"999999999999", 999999999999}, {"0999999999999", 999999999999}, {nought(6) + "999999999999", 999999999999},
		{nought(17) + "1", 1}, {"100000000000", 100000000000},
	} {
		wantWords(t, c.digits, number(c.n, 1))
		wantWords(t, c.digits+"x", number(c.n, 1), name("x", 1))
	}
	for _, digits := range []string{
		"1000000000000", "0" + "1000000000000", nought(5) + "1000000000000", "999999999999999999",
		nought(19), nought(18) + "1", nought(7) + "999999999999", nought(6) + "1000000000000", "1" + nought(18),
		"9223372036854775807", "9223372036854775808", "18446744073709551616", "18446744073709551617", nought(4000), strings.Repeat("9", 4000),
	} {
		wantRefusal(t, digits, 1)
	}
	wantRefusal(t, "1\n"+nought(19)+" 2", 2)
	wantWords(t, "1.5", number(1, 1), sign(".", 1), number(5, 1))
	wantWords(t, "-1", sign("-", 1), number(1, 1))
	wantWords(t, "0x1_e2", number(0, 1), name("x1_e2", 1))
	wantWords(t, nought(18)+" "+nought(18), number(0, 1), number(0, 1))
}

func TestLexTexts(t *testing.T) {
	for _, c := range []struct{ src, told string }{
		{`""`, ""}, {`"a"`, "a"}, {`"\n"`, "\n"}, {`"\""`, "\""}, {`"\\"`, "\\"}, {`"\\n"`, "\\n"}, {`"\\\n"`, "\\\n"},
		{`"\\\\"`, "\\\\"}, {`"a\nb\"c\\d"`, "a\nb\"c\\d"}, {`"-- a"`, "-- a"}, {`"and"`, "and"}, {`" 12 "`, " 12 "}, {`"~'"`, "~'"},
		{"\"\x00\t\r\xff\xc3é日\"", "\x00\t\r\xff\xc3é日"},
	} {
		wantWords(t, c.src, text(c.told, 1))
		wantWords(t, c.src+c.src, text(c.told, 1), text(c.told, 1))
		wantWords(t, "a"+c.src+"1", name("a", 1), text(c.told, 1), number(1, 1))
	}
	for _, src := range []string{`"`, `"a`, `"\`, `"\"`, `"\\\"`, `"a\n`, `"""`, "\"\n\"", "\"a\nb\"", "\"\\\n\"", "\"a\n", "\"-- a"} {
		wantRefusal(t, src, 1)
		wantRefusal(t, "x\n\n"+src, 3)
	}
	wantRefusal(t, "\"a\" \"b\n\"", 1)
	wantRefusal(t, "\"a\"\n\"b", 2)
}

func TestLexEachByteInAText(t *testing.T) {
	for b := range 256 {
		s := string([]byte{byte(b)})
		switch s {
		case "\n", "\\":
			wantRefusal(t, "\""+s+"\"", 1)
		case "\"":
			wantRefusal(t, "\""+s+"\"", 1)
			wantWords(t, "\""+s, text("", 1))
		default:
			wantWords(t, "\"a"+s+"b\"", text("a"+s+"b", 1))
		}
		switch s {
		case "n":
			wantWords(t, "\"\\"+s+"\"", text("\n", 1))
		case "\"", "\\":
			wantWords(t, "\"\\"+s+"\"", text(s, 1))
		default:
			wantRefusal(t, "\"\\"+s+"\"", 1)
		}
	}
}

func TestLexEachByteAlone(t *testing.T) {
	for b := range 256 {
		s := string([]byte{byte(b)})
		switch {
		case strings.Contains(" \t\n", s):
			wantWords(t, s)
		case b == '_' || b >= 'a' && b <= 'z' || b >= 'A' && b <= 'Z':
			wantWords(t, s, name(s, 1))
		case b >= '0' && b <= '9':
			wantWords(t, s, number(b-'0', 1))
		case strings.Contains("+-*%<>=(){}[],.;#", s):
			wantWords(t, s, sign(s, 1))
		default:
			wantRefusal(t, s, 1)
			wantRefusal(t, "a\n1 "+s+"\n\"\"", 2)
			wantRefusal(t, "a"+s, 1)
		}
	}
}

func TestLexSigns(t *testing.T) {
	for _, s := range signs {
		wantWords(t, s, sign(s, 1))
		wantWords(t, "a"+s+"1", name("a", 1), sign(s, 1), number(1, 1))
		wantWords(t, s+" "+s, sign(s, 1), sign(s, 1))
	}
	for _, c := range []struct{ src, words string }{
		{"===", "== ="}, {"====", "== =="}, {"= =", "= ="}, {"<==", "<= ="}, {">==", ">= ="}, {"~==", "~= ="}, {"=<=", "= <="}, {"=>", "= >"},
		{"<>", "< >"}, {"...", ".. ."}, {"....", ".. .."}, {". .", ". ."}, {"////", "// //"}, {"- -", "- -"}, {"-=", "- ="}, {"=-", "= -"},
		{"<<=", "< <="}, {"[[]]", "[ [ ] ]"}, {"#{}", "# { }"}, {";;", "; ;"},
	} {
		var want []impl.Token
		for _, s := range strings.Fields(c.words) {
			want = append(want, sign(s, 1))
		}
		wantWords(t, c.src, want...)
	}
	for _, src := range []string{"~", "/", "///", "~ =", "/ /", "=~", "!=", "&&", "||", "^", ":", "@", "?", "'a'", "`", "$", "\\n", "\r", "\x00", "é", "\xff"} {
		wantRefusal(t, src, 1)
	}
}

func TestLexComments(t *testing.T) {
	for _, rest := range []string{"", " ", "c", "-", "--", " a -- b", "\"", " \"a", "\r", "\x00\xff~"} {
		wantWords(t, "a --"+rest, name("a", 1))
		wantWords(t, "a --"+rest+"\n", name("a", 1))
		wantWords(t, "a--"+rest+"\nb", name("a", 1), name("b", 2))
		wantWords(t, "--"+rest+"\n\n1--"+rest+"\n--"+rest, number(1, 3))
		wantRefusal(t, "--"+rest+"\n~", 2)
	}
	wantWords(t, "a - -b", name("a", 1), sign("-", 1), sign("-", 1), name("b", 1))
	wantWords(t, "a---b", name("a", 1))
	wantWords(t, "\"--\"-", text("--", 1), sign("-", 1))
	wantWords(t, "==--=", sign("==", 1))
	wantRefusal(t, "\"a -- \n\"", 1)
}

func TestLexLines(t *testing.T) {
	wantWords(t, "\n\na\n\t1 \"b\\n\" <=\n-- c\n\nif", name("a", 3), number(1, 4), text("b\n", 4), sign("<=", 4), word("if", 7))
	wantWords(t, "a\nb\nc\n", name("a", 1), name("b", 2), name("c", 3))
	wantRefusal(t, "\n\n\r\n", 3)
	wantRefusal(t, "a\n\"b\\n\" ~\n!", 2)
	wantRefusal(t, "a --\n b\n  \"c\n", 3)
}

func TestGlyphsOfCodePoints(t *testing.T) {
	for c := range 1114112 {
		if c >= 55296 && c <= 57343 {
			continue
		}
		if s := string(rune(c)); impl.Glyphs(s) != 1 {
			t.Fatal("code point", c, impl.Glyphs(s))
		}
	}
}

// glyphsByBytes follows the document's words alone: the greatest step is that of a code point's bytes, shortest and within the bounds.
func glyphsByBytes(s string) int {
	count := 0
	for at := 0; at < len(s); count++ {
		at += pointLength(s[at:])
	}
	return count
}

func pointLength(s string) int {
	for length := 2; length <= 4 && length <= len(s); length++ {
		first := []int{0xC0, 0xE0, 0xF0}[length-2]
		rest := int(s[0]) - first
		if rest < 0 || rest >= []int{32, 16, 8}[length-2] {
			continue
		}
		whole := true
		for _, b := range []byte(s[1:length]) {
			whole = whole && b >= 0x80 && b < 0xC0
			rest = rest*64 + int(b)%64
		}
		least := []int{0x80, 0x800, 0x10000}[length-2]
		if whole && rest >= least && rest <= 1114111 && (rest < 55296 || rest > 57343) {
			return length
		}
	}
	return 1
}

func TestGlyphsAtBorders(t *testing.T) {
	for _, c := range []struct {
		s string
		n int
	}{
		{"", 0}, {"\x00", 1}, {"\x7f", 1}, {"\x80", 1}, {"\xbf", 1}, {"\xc0\x80", 2}, {"\xc1\xbf", 2}, {"\xc2\x80", 1}, {"\xdf\xbf", 1}, {"\xc2", 1}, {"\xc2a", 2},
		{"\xe0\x80\x80", 3}, {"\xe0\x9f\xbf", 3}, {"\xe0\xa0\x80", 1}, {"\xed\x9f\xbf", 1}, {"\xed\xa0\x80", 3}, {"\xed\xbf\xbf", 3}, {"\xee\x80\x80", 1},
		{"\xef\xbf\xbd", 1}, {"\xef\xbf\xbf", 1}, {"\xef\xbf", 2}, {"\xf0\x80\x80\x80", 4}, {"\xf0\x8f\xbf\xbf", 4}, {"\xf0\x90\x80\x80", 1}, {"\xf0\x90\x80", 3},
		{"\xf4\x8f\xbf\xbf", 1}, {"\xf4\x90\x80\x80", 4}, {"\xf5\x80\x80\x80", 4}, {"\xf8\x88\x80\x80\x80", 5}, {"\xfe", 1}, {"\xff\xfe", 2},
		{"a\xffé\xe6\x97日\x80\xef\xbf\xbd", 8}, {"e\u0301", 2}, {"\r\n", 2}, {strings.Repeat("é\xff", 5000), 10000},
	} {
		if impl.Glyphs(c.s) != c.n || glyphsByBytes(c.s) != c.n {
			t.Errorf("Glyphs of %.20q: %d %d, not %d", c.s, impl.Glyphs(c.s), glyphsByBytes(c.s), c.n)
		}
	}
}

func TestGlyphsOfAnyBytes(t *testing.T) {
	edges := "\x00a\x7f\x80\x8f\x90\x9f\xa0\xbf\xc0\xc1\xc2\xdf\xe0\xe1\xec\xed\xee\xef\xf0\xf1\xf3\xf4\xf5\xf7\xf8\xff"
	for n := range len(edges) * len(edges) * len(edges) * len(edges) {
		var s []byte
		for rest := n; len(s) < 4; rest /= len(edges) {
			s = append(s, edges[rest%len(edges)])
		}
		if impl.Glyphs(string(s)) != glyphsByBytes(string(s)) {
			t.Fatalf("Glyphs of %q: %d", s, impl.Glyphs(string(s)))
		}
	}
}

func TestQuote(t *testing.T) {
	for _, c := range []struct{ s, quoted string }{
		{"", `""`}, {"a", `"a"`}, {"\n", `"\n"`}, {"\"", `"\""`}, {"\\", `"\\"`}, {"\\n", `"\\n"`}, {"\\\n", `"\\\n"`}, {"n", `"n"`},
		{"a\n\"\\b", `"a\n\"\\b"`}, {"\t\r\x00", "\"\t\r\x00\""}, {"é日\xff\xef\xbf\xbd", "\"é日\xff\xef\xbf\xbd\""}, {"'--", `"'--"`},
	} {
		if impl.Quote(c.s) != c.quoted {
			t.Errorf("Quote of %q: %s", c.s, impl.Quote(c.s))
		}
	}
	long := strings.Repeat("a\n", 5000)
	if impl.Quote(long) != "\""+strings.Repeat("a\\n", 5000)+"\"" {
		t.Error("Quote of a long text")
	}
}

// wantBack asks for the first promise: the text that is quoted comes back, and nothing beside it.
func wantBack(t *testing.T, s string) {
	t.Helper()
	quoted := impl.Quote(s)
	if len(quoted) > impl.MaxSource {
		wantRefusal(t, quoted, 1)
		return
	}
	wantWords(t, quoted, text(s, 1))
	if len(quoted)+3 <= impl.MaxSource {
		wantWords(t, " \t"+quoted+"\n", text(s, 1))
	}
}

func TestTextComesBackFromQuote(t *testing.T) {
	for b := range 256 {
		wantBack(t, string([]byte{byte(b)}))
		wantBack(t, string([]byte{'\\', byte(b), 'n', byte(b), '\\'}))
	}
	pieces := []string{"\n", "\"", "\\", "n", "a", " ", "--", "\r", "\x00", "\xff", "é", "\xe6\x97"}
	r := dice{seed: 1}
	for range 2000 {
		wantBack(t, r.join(pieces, r.below(30)))
	}
	for _, s := range pieces {
		for n := impl.MaxSource/len(s) - 4; n*len(s) <= impl.MaxSource+2; n++ {
			wantBack(t, strings.Repeat(s, n))
		}
	}
	for n := impl.MaxSource/2 - 4; n < impl.MaxSource/2+2; n++ {
		wantBack(t, strings.Repeat("\\", n))
	}
}

// dice tells the same numbers each time.
type dice struct{ seed uint64 }

func (d *dice) below(n int) int {
	d.seed = d.seed*6364136223846793005 + 1442695040888963407
	return int((d.seed >> 33) % uint64(n))
}

func (d *dice) join(pieces []string, count int) string {
	var b strings.Builder
	for range count {
		b.WriteString(pieces[d.below(len(pieces))])
	}
	return b.String()
}

var sourcePieces = append([]string{" ", "\t", "\n", "--", "~", "/", "!", "\r", "\xff", "\\", "\"", "\"a\\n\"", "\"\\\\\"", "a", "_", "Z9", "0", "12", "999999999999", "000000", "and", "end"}, signs...)

var wordShape = regexp.MustCompile(`^(?:([A-Za-z_][A-Za-z_0-9]*)|([0-9]+)|("(?:[^"\\\n]|\\[n"\\])*")|(==|~=|<=|>=|//|\.\.|[-+*%<>=(){}\[\],.;#]))`)

var gapShape = regexp.MustCompile(`^(?:[ \t\n]|--[^\n]*)*`)

// lexByShapes reads a source by the shapes of words alone, as a second opinion.
func lexByShapes(src string) ([]impl.Token, int) {
	if len(src) > impl.MaxSource {
		return nil, 1
	}
	var list []impl.Token
	for at := 0; ; {
		at += len(gapShape.FindString(src[at:]))
		line := 1 + strings.Count(src[:at], "\n")
		if at == len(src) {
			return list, 0
		}
		m := wordShape.FindStringSubmatch(src[at:])
		switch {
		case m == nil:
			return nil, line
		case m[1] != "" && strings.Contains(" "+strings.Join(keywords, " ")+" ", " "+m[1]+" "):
			list = append(list, word(m[1], line))
		case m[1] != "":
			list = append(list, name(m[1], line))
		case m[2] != "":
			n, err := strconv.Atoi(m[2])
			if err != nil || len(m[2]) > 18 || n > 999999999999 {
				return nil, line
			}
			list = append(list, number(n, line))
		case m[3] != "":
			told := strings.NewReplacer(`\n`, "\n", `\"`, "\"", `\\`, "\\").Replace(m[3][1 : len(m[3])-1])
			list = append(list, text(told, line))
		default:
			list = append(list, sign(m[4], line))
		}
		at += len(m[0])
	}
}

func TestLexOfAnySource(t *testing.T) {
	r := dice{seed: 2}
	read := 0
	for range 30000 {
		src := r.join(sourcePieces, r.below(14))
		got, line := impl.Lex(src)
		want, wantLine := lexByShapes(src)
		if line != wantLine || !sameTokens(got, want) {
			t.Fatalf("Lex of %q: %v %d, not %v %d", src, got, line, want, wantLine)
		}
		if line == 0 {
			read++
		}
	}
	if read < 3000 {
		t.Error("too few sources are read, so little is held against anything:", read)
	}
}

func TestBlanksAroundWordsChangeNothing(t *testing.T) {
	words := append([]string{"a", "_b1", "12", "000", "999999999999", "\"\"", "\" a\"", "\"\\n\\\"\\\\\"", "\"--\""}, append(signs, keywords...)...)
	gaps := []string{" ", "\t", "  ", " \t ", "\t\t"}
	// A comment stands behind a blank here, as the sign - right ahead of one would be part of it.
	lineGaps := append([]string{"\n", "\n\n", " \n\t", " --\n", "\t-- a \"\n", " ---- \n \n"}, gaps...)
	r := dice{seed: 3}
	for range 2000 {
		var once, blanks, lines strings.Builder
		for range r.below(20) {
			w := words[r.below(len(words))]
			once.WriteString(w + " ")
			blanks.WriteString(r.join(gaps, 1+r.below(3)) + w + r.join(gaps, 1))
			lines.WriteString(r.join(lineGaps, 1+r.below(3)) + w + r.join(lineGaps, 1))
		}
		want, line := impl.Lex(once.String())
		if line != 0 {
			t.Fatalf("Lex of %q: %d", once.String(), line)
		}
		wantWords(t, blanks.String(), want...)
		got, line := impl.Lex(lines.String())
		for i := range got {
			got[i].Line = 1
		}
		if line != 0 || !sameTokens(got, want) {
			t.Fatalf("Lex of %q: %v %d", lines.String(), got, line)
		}
	}
}

func TestDecText(t *testing.T) {
	for _, c := range []struct {
		n    int
		text string
	}{
		{0, "0"}, {1, "1"}, {-1, "-1"}, {9, "9"}, {10, "10"}, {-10, "-10"}, {100, "100"}, {-12, "-12"}, {1002003, "1002003"}, {999999999999, "999999999999"},
		{9223372036854775807, "9223372036854775807"}, {-9223372036854775807, "-9223372036854775807"}, {-9223372036854775808, "-9223372036854775808"},
	} {
		if impl.DecText(c.n) != c.text {
			t.Error("DecText", c.n, impl.DecText(c.n))
		}
	}
	for n, s := 0, ""; n < 1000000000000; n, s = n*10+7, s+"7" {
		if n > 0 && (impl.DecText(n) != s || impl.DecText(-n) != "-"+s) {
			t.Error("DecText", n, impl.DecText(n), impl.DecText(-n))
		}
		wantWords(t, impl.DecText(n), number(n, 1))
	}
}

// Promise 13, for this chapter: each argument is answered, and an answer is its own memory.
func TestWordsAtAnyArguments(t *testing.T) {
	var all []byte
	for b := range 256 {
		all = append(all, byte(b))
	}
	r := dice{seed: 4}
	for range 20000 {
		var s []byte
		for range r.below(12) {
			s = append(s, all[r.below(256)])
		}
		list, line := impl.Lex(string(s))
		if line != 0 && len(list) != 0 || line < 0 {
			t.Fatalf("Lex of %q: %v %d", s, list, line)
		}
		if got := impl.Glyphs(string(s)); got != glyphsByBytes(string(s)) {
			t.Fatalf("Glyphs of %q: %d", s, got)
		}
		wantBack(t, string(s))
		if impl.IsKeyword(string(s)) {
			t.Fatalf("%q is no keyword", s)
		}
	}
}

func TestWordsAreNewMemory(t *testing.T) {
	src := "local a = \"b\" -- c\n1"
	first, _ := impl.Lex(src)
	second, _ := impl.Lex(src)
	for i := range first {
		first[i] = impl.Token{}
	}
	first = append(first, impl.Token{})
	want := []impl.Token{word("local", 1), name("a", 1), sign("=", 1), text("b", 1), number(1, 2)}
	if !sameTokens(second, want) {
		t.Error("two answers share memory", second, len(first))
	}
	wantWords(t, src, want...)
}
