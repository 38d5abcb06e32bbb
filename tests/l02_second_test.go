package tests

import (
	"fmt"
	"slices"
	"testing"

	"loop.example/g00258/impl"
)

// elderReader reads words as the document lists its forms, a function a rank, on its own call stack: a second opinion.
type elderReader struct {
	list []impl.Token
	at   int
}

// elderParse tells how deep the tree is, too, or -1 for the line of a word that does not fit.
func elderParse(list []impl.Token) (n impl.Node, depth int, line int) {
	defer func() {
		if told := recover(); told != nil {
			n, depth, line = impl.Node{}, -1, told.(int)
		}
	}()
	e := elderReader{list: list}
	n = e.block()
	if e.at < len(list) {
		e.refuse()
	}
	return n, depthOf(n), 0
}

func depthOf(n impl.Node) int {
	depth := 0
	for _, kid := range n.Kids {
		depth = max(depth, 1+depthOf(kid))
	}
	return depth
}

func (e *elderReader) refuse() {
	panic(e.list[min(e.at, len(e.list)-1)].Line)
}

func (e *elderReader) word() impl.Token {
	if e.at < len(e.list) {
		return e.list[e.at]
	}
	return impl.Token{Kind: -1}
}

func (e *elderReader) one(texts ...string) bool {
	word := e.word()
	isWord := word.Kind == impl.TokWord && slices.Contains(keywords, word.Text)
	isSign := word.Kind == impl.TokSign && !slices.Contains(keywords, word.Text)
	return (isWord || isSign) && slices.Contains(texts, word.Text)
}

func (e *elderReader) taken(text string) bool {
	if e.one(text) {
		e.at++
		return true
	}
	return false
}

func (e *elderReader) must(text string) {
	if !e.taken(text) {
		e.refuse()
	}
}

func (e *elderReader) mustName() string {
	if e.word().Kind != impl.TokName {
		e.refuse()
	}
	e.at++
	return e.list[e.at-1].Text
}

func (e *elderReader) block() impl.Node {
	n := impl.Node{Kind: impl.NkBlock}
	if e.at < len(e.list) {
		n.Line = e.word().Line
	}
	for e.one("local", "if", "while", "return", "break", "(") || e.word().Kind == impl.TokName {
		n.Kids = append(n.Kids, e.statement())
		e.taken(";")
	}
	return n
}

func (e *elderReader) statement() impl.Node {
	line := e.word().Line
	switch {
	case e.taken("local"):
		if e.one("function") {
			inner := e.word().Line
			e.at++
			name := e.mustName()
			return impl.Node{Kind: impl.NkRec, Text: name, Line: line, Kids: []impl.Node{e.function(inner)}}
		}
		n := impl.Node{Kind: impl.NkLocal, Text: e.mustName(), Line: line}
		if e.taken("=") {
			n.Kids = append(n.Kids, e.ranked(0))
		}
		return n
	case e.taken("if"):
		n := impl.Node{Kind: impl.NkIf, Line: line, Kids: []impl.Node{e.ranked(0)}}
		e.must("then")
		n.Kids = append(n.Kids, e.block())
		if e.taken("else") {
			n.Kids = append(n.Kids, e.block())
		}
		e.must("end")
		return n
	case e.taken("while"):
		n := impl.Node{Kind: impl.NkWhile, Line: line, Kids: []impl.Node{e.ranked(0)}}
		e.must("do")
		n.Kids = append(n.Kids, e.block())
		e.must("end")
		return n
	case e.taken("return"):
		n := impl.Node{Kind: impl.NkReturn, Line: line}
		kind := e.word().Kind
		if kind == impl.TokName || kind == impl.TokNumber || kind == impl.TokText || e.one("not", "-", "#", "nil", "true", "false", "{", "function", "(") {
			n.Kids = append(n.Kids, e.ranked(0))
		}
		return n
	case e.taken("break"):
		return impl.Node{Kind: impl.NkBreak, Line: line}
	}
	first := e.prefix()
	if first.Kind == impl.NkCall {
		return impl.Node{Kind: impl.NkDo, Line: first.Line, Kids: []impl.Node{first}}
	}
	if first.Kind != impl.NkName && first.Kind != impl.NkIndex {
		e.refuse()
	}
	e.must("=")
	return impl.Node{Kind: impl.NkSet, Line: first.Line, Kids: []impl.Node{first, e.ranked(0)}}
}

func (e *elderReader) function(line int) impl.Node {
	n := impl.Node{Kind: impl.NkFunc, Line: line}
	e.must("(")
	for !e.one(")") || len(n.Names) > 0 {
		if len(n.Names) == 8 || slices.Contains(n.Names, e.word().Text) {
			e.refuse()
		}
		n.Names = append(n.Names, e.mustName())
		if !e.taken(",") {
			break
		}
	}
	e.must(")")
	n.Kids = []impl.Node{e.block()}
	e.must("end")
	return n
}

func (e *elderReader) ranked(rank int) impl.Node {
	if rank == len(ranks) {
		return e.operand()
	}
	left := e.ranked(rank + 1)
	for e.one(ranks[rank]...) {
		n := impl.Node{Kind: impl.NkBin, Text: e.word().Text, Line: left.Line}
		e.at++
		if n.Text == ".." {
			n.Kids = []impl.Node{left, e.ranked(rank)}
		} else {
			n.Kids = []impl.Node{left, e.ranked(rank + 1)}
		}
		left = n
	}
	return left
}

func (e *elderReader) operand() impl.Node {
	word := e.word()
	n := impl.Node{Line: word.Line}
	switch {
	case e.one("not", "-", "#"):
		e.at++
		n.Kind, n.Text, n.Kids = impl.NkUn, word.Text, []impl.Node{e.operand()}
	case e.taken("nil"):
		n.Kind = impl.NkNil
	case e.taken("true"):
		n.Kind = impl.NkTrue
	case e.taken("false"):
		n.Kind = impl.NkFalse
	case e.taken("{"):
		e.must("}")
		n.Kind = impl.NkTable
	case e.taken("function"):
		return e.function(word.Line)
	case word.Kind == impl.TokNumber:
		e.at++
		n.Kind, n.N = impl.NkInt, word.N
	case word.Kind == impl.TokText:
		e.at++
		n.Kind, n.Text = impl.NkText, word.Text
	default:
		return e.prefix()
	}
	return n
}

func (e *elderReader) prefix() impl.Node {
	var n impl.Node
	if e.taken("(") {
		n = e.ranked(0)
		e.must(")")
	} else {
		n = impl.Node{Kind: impl.NkName, Line: e.word().Line}
		n.Text = e.mustName()
	}
	for {
		switch {
		case e.taken("["):
			n = impl.Node{Kind: impl.NkIndex, Line: n.Line, Kids: []impl.Node{n, e.ranked(0)}}
			e.must("]")
		case e.taken("."):
			key := impl.Node{Kind: impl.NkText, Line: e.word().Line}
			key.Text = e.mustName()
			n = impl.Node{Kind: impl.NkIndex, Line: n.Line, Kids: []impl.Node{n, key}}
		case e.taken("("):
			n = impl.Node{Kind: impl.NkCall, Line: n.Line, Kids: []impl.Node{n}}
			for first := true; first && !e.one(")") || !first && e.taken(","); first = false {
				if len(n.Kids) == 9 {
					e.refuse()
				}
				n.Kids = append(n.Kids, e.ranked(0))
			}
			e.must(")")
		default:
			return n
		}
	}
}

// wantElder asks for what the second opinion says of these words.
func wantElder(t *testing.T, list []impl.Token) bool {
	t.Helper()
	want, depth, wantLine := elderParse(list)
	if depth > impl.MaxDepth {
		want, wantLine = impl.Node{}, 1
	}
	got, line := impl.Parse(list)
	if line != wantLine || outline(got, true) != outline(want, true) {
		t.Fatalf("Parse of %.900s: %.600s %d, not %.600s %d", fmt.Sprint(list), outline(got, true), line, outline(want, true), wantLine)
	}
	return depth >= 0
}
