// Package impl is a small language that can be run backwards, a file a layer.
package impl

import (
	"strconv"
	"strings"
)

const (
	TokName   = 0
	TokNumber = 1
	TokText   = 2
	TokSign   = 3
	TokWord   = 4
	MaxSource = 4000
)

// Any 18 digits fit into an int, so a longer number is refused before it is reckoned.
const (
	maxDigits = 18
	maxNumber = 999999999999
)

// Flags, so that one look at a byte can ask for several classes.
const (
	blankByte  = 1
	letterByte = 2
	digitByte  = 4
	signByte   = 8
)

type Token struct {
	Kind int
	Text string
	N    int
	Line int
}

// No word spans lines, so line is that of a word's first byte before and behind it.
type lexer struct {
	src     string
	at      int
	line    int
	classes [256]uint8
}

func IsKeyword(s string) bool {
	switch s {
	case "and", "break", "do", "else", "end", "false", "function", "if", "local",
		"nil", "not", "or", "return", "then", "true", "while":
		return true
	}
	return false
}

func Lex(src string) ([]Token, int) {
	if len(src) > MaxSource {
		return nil, 1
	}
	x := lexer{src: src, line: 1, classes: byteClasses()}
	var list []Token
	for x.toWord() {
		word, ok := x.word()
		if !ok {
			return nil, x.line
		}
		list = append(list, word)
	}
	return list, 0
}

func byteClasses() [256]uint8 {
	var classes [256]uint8
	for b := 'a'; b <= 'z'; b++ {
		classes[b] = letterByte
		classes[b-'a'+'A'] = letterByte
	}
	classes['_'] = letterByte
	for b := '0'; b <= '9'; b++ {
		classes[b] = digitByte
	}
	for _, b := range " \t\n" {
		classes[b] = blankByte
	}
	for _, b := range "+-*%<>=(){}[],.;#" {
		classes[b] = signByte
	}
	return classes
}

// A comment is looked for here, ahead of all words, so that -- is never two signs.
func (x *lexer) toWord() bool {
	for x.at < len(x.src) {
		rest := x.src[x.at:]
		switch {
		case rest[0] == '\n':
			x.line++
			x.at++
		case x.classes[rest[0]] == blankByte:
			x.at++
		case strings.HasPrefix(rest, "--"):
			x.at += lineLength(rest)
		default:
			return true
		}
	}
	return false
}

// The newline is left out, so that whoever goes on from there still counts it.
func lineLength(s string) int {
	if end := strings.IndexByte(s, '\n'); end >= 0 {
		return end
	}
	return len(s)
}

func (x *lexer) word() (Token, bool) {
	b := x.src[x.at]
	switch {
	case x.classes[b] == letterByte:
		return x.name(), true
	case x.classes[b] == digitByte:
		return x.number()
	case b == '"':
		return x.text()
	}
	return x.sign()
}

func (x *lexer) name() Token {
	text := x.take(x.countOf(letterByte | digitByte))
	kind := TokName
	if IsKeyword(text) {
		kind = TokWord
	}
	return Token{Kind: kind, Text: text, Line: x.line}
}

func (x *lexer) number() (Token, bool) {
	digits := x.take(x.countOf(digitByte))
	if len(digits) > maxDigits {
		return Token{}, false
	}
	n, err := strconv.Atoi(digits)
	if err != nil || n > maxNumber {
		return Token{}, false
	}
	return Token{Kind: TokNumber, N: n, Line: x.line}, true
}

func (x *lexer) text() (Token, bool) {
	var out []byte
	for i := x.at + 1; i < len(x.src); i++ {
		b := x.src[i]
		switch b {
		case '"':
			x.at = i + 1
			return Token{Kind: TokText, Text: string(out), Line: x.line}, true
		case '\n':
			return Token{}, false
		case '\\':
			i++
			if i == len(x.src) {
				return Token{}, false
			}
			told, ok := escaped(x.src[i])
			if !ok {
				return Token{}, false
			}
			b = told
		}
		out = append(out, b)
	}
	return Token{}, false
}

func escaped(letter byte) (byte, bool) {
	switch letter {
	case 'n':
		return '\n', true
	case '"', '\\':
		return letter, true
	}
	return 0, false
}

func (x *lexer) sign() (Token, bool) {
	width := x.signWidth()
	if width == 0 {
		return Token{}, false
	}
	return Token{Kind: TokSign, Text: x.take(width), Line: x.line}, true
}

// Two bytes are tried ahead of one, as the longest word counts.
func (x *lexer) signWidth() int {
	if x.at+2 <= len(x.src) {
		switch x.src[x.at : x.at+2] {
		case "==", "~=", "<=", ">=", "//", "..":
			return 2
		}
	}
	if x.classes[x.src[x.at]] == signByte {
		return 1
	}
	return 0
}

func (x *lexer) countOf(classes uint8) int {
	end := x.at
	for end < len(x.src) && x.classes[x.src[end]]&classes != 0 {
		end++
	}
	return end - x.at
}

// The bytes are copied, as an answer shares no memory with an argument.
func (x *lexer) take(count int) string {
	taken := strings.Clone(x.src[x.at : x.at+count])
	x.at += count
	return taken
}

func Glyphs(s string) int {
	points, bytesLeft := 0, len(s)
	for at, point := range s {
		// A byte that is part of none comes as 65533, whose own bytes don't stand there.
		own := string(point)
		if strings.HasPrefix(s[at:], own) {
			points++
			bytesLeft -= len(own)
		}
	}
	return points + bytesLeft
}

func Quote(s string) string {
	out := []byte{'"'}
	for i := range len(s) {
		switch b := s[i]; b {
		case '\n':
			out = append(out, '\\', 'n')
		case '"', '\\':
			out = append(out, '\\', b)
		default:
			out = append(out, b)
		}
	}
	return string(append(out, '"'))
}

func DecText(n int) string {
	return strconv.Itoa(n)
}
