package tests

import (
	"slices"
	"strconv"
	"strings"
	"testing"

	"loop.example/g00258/impl"
)

// ordinary holds every form of the chapter.
const ordinary = `local n ; local t = { } local function fact ( n , m ) if n <= 1 then return 1 else return n * fact ( n - 1 ) end return end
while not ( n == 10 ) and # t < 5 or false do t [ n ] = t . k .. "a" .. - n // 2 % 3 ; ( t ) . f ( 1 , nil , true ) break return ; ( print ) ( "b" ) end
x = function ( ) end ( y ) ( 1 ) [ 2 ] . z = n + 1 >= 2 ~= ( 3 > n ) return fact ( 3 )`

func wordsInLines(t *testing.T, src string) []impl.Token {
	t.Helper()
	list, line := impl.Lex(src)
	if line != 0 {
		t.Fatalf("Lex of %q: %d", src, line)
	}
	for i := range list {
		list[i].Line = i + 1
	}
	return list
}

// anyWords holds a word of each kind and each sign and keyword.
func anyWords() []impl.Token {
	list := []impl.Token{name("a", 0), name("b", 0), number(7, 0), text("c", 0), text("(", 0)}
	for _, s := range signs {
		list = append(list, sign(s, 0))
	}
	for _, k := range keywords {
		list = append(list, word(k, 0))
	}
	return list
}

func TestEachWordLackingOrAnother(t *testing.T) {
	list := wordsInLines(t, ordinary)
	if !wantElder(t, list) {
		t.Fatal("the ordinary program is refused")
	}
	n, _ := impl.Parse(list)
	wantTreeBack(t, n)
	for i := range list {
		wantElder(t, list[:i])
		wantElder(t, list[i:])
		wantElder(t, slices.Delete(slices.Clone(list), i, i+1))
		for _, other := range anyWords() {
			other.Line = i + 1
			changed := slices.Clone(list)
			changed[i] = other
			wantElder(t, changed)
			wantElder(t, slices.Insert(slices.Clone(list), i, other))
			wantElder(t, append(slices.Clone(list[:i]), other))
		}
	}
}

func TestFewWords(t *testing.T) {
	words := anyWords()
	refused, read := 0, 0
	for _, a := range words {
		for _, b := range words {
			for _, c := range words {
				list := []impl.Token{a, b, c}
				for i := range list {
					list[i].Line = i + 1
				}
				if wantElder(t, list) {
					read++
				} else {
					refused++
				}
			}
		}
	}
	if read < 20 || refused < 20 {
		t.Error("too little is held against anything:", read, refused)
	}
}

// grower makes trees as a program's are, from a budget of nodes.
type grower struct {
	dice
	budget int
}

func (g *grower) pick(texts ...string) string {
	return texts[g.below(len(texts))]
}

func (g *grower) name() string {
	return g.pick("a", "b", "c", "d", "_", "X9")
}

func (g *grower) block(depth int) impl.Node {
	n := impl.Node{Kind: impl.NkBlock}
	for count := g.below(5); count > 0 && g.budget > 0; count-- {
		n.Kids = append(n.Kids, g.statement(depth-1))
	}
	return n
}

func (g *grower) statement(depth int) impl.Node {
	g.budget--
	kind := impl.NkLocal + g.below(8)
	n := impl.Node{Kind: kind}
	switch {
	case depth < 5:
		return impl.Node{Kind: impl.NkBreak}
	case kind == impl.NkLocal:
		n.Text = g.name()
		if g.below(2) == 0 {
			n.Kids = []impl.Node{g.expression(depth - 1)}
		}
	case kind == impl.NkRec:
		n.Text, n.Kids = g.name(), []impl.Node{g.function(depth - 1)}
	case kind == impl.NkIf:
		n.Kids = []impl.Node{g.expression(depth - 1), g.block(depth - 1)}
		if g.below(2) == 0 {
			n.Kids = append(n.Kids, g.block(depth-1))
		}
	case kind == impl.NkWhile:
		n.Kids = []impl.Node{g.expression(depth - 1), g.block(depth - 1)}
	case kind == impl.NkReturn && g.below(2) == 0:
		n.Kids = []impl.Node{g.expression(depth - 1)}
	case kind == impl.NkSet && g.below(2) == 0:
		n.Kids = []impl.Node{{Kind: impl.NkName, Text: g.name()}, g.expression(depth - 1)}
	case kind == impl.NkSet:
		n.Kids = []impl.Node{g.index(depth - 1), g.expression(depth - 1)}
	case kind == impl.NkDo:
		n.Kids = []impl.Node{g.call(depth - 1)}
	}
	return n
}

func (g *grower) function(depth int) impl.Node {
	n := impl.Node{Kind: impl.NkFunc}
	for count := g.below(4); count > 0; count-- {
		n.Names = append(n.Names, "p"+strconv.Itoa(count))
	}
	n.Kids = []impl.Node{g.block(depth - 1)}
	return n
}

func (g *grower) index(depth int) impl.Node {
	return impl.Node{Kind: impl.NkIndex, Kids: []impl.Node{g.expression(depth - 1), g.expression(depth - 1)}}
}

func (g *grower) call(depth int) impl.Node {
	n := impl.Node{Kind: impl.NkCall, Kids: []impl.Node{g.expression(depth - 1)}}
	for count := g.below(4); count > 0; count-- {
		n.Kids = append(n.Kids, g.expression(depth-1))
	}
	return n
}

func (g *grower) expression(depth int) impl.Node {
	g.budget--
	if depth < 3 || g.budget < 0 {
		return g.leaf()
	}
	switch g.below(7) {
	case 0:
		return g.function(depth)
	case 1:
		return g.index(depth)
	case 2:
		return g.call(depth)
	case 3, 4:
		sign := g.pick(slices.Concat(ranks...)...)
		return impl.Node{Kind: impl.NkBin, Text: sign, Kids: []impl.Node{g.expression(depth - 1), g.expression(depth - 1)}}
	case 5:
		return impl.Node{Kind: impl.NkUn, Text: g.pick("not", "-", "#"), Kids: []impl.Node{g.expression(depth - 1)}}
	}
	return g.leaf()
}

func (g *grower) leaf() impl.Node {
	switch kind := impl.NkNil + g.below(7); kind {
	case impl.NkInt:
		return impl.Node{Kind: kind, N: []int{0, 1, 12, 999999999999}[g.below(4)]}
	case impl.NkText:
		return impl.Node{Kind: kind, Text: g.pick("", "a", "end", "\n", "\"", "\\", " -- ", "\xff\x00", "12", "a_b")}
	case impl.NkName:
		return impl.Node{Kind: kind, Text: g.name()}
	default:
		return impl.Node{Kind: kind}
	}
}

// spell writes a tree with no more round brackets than the ranks ask for, or with some more, and with a ; only where one is needed, or by chance.
func (g *grower) spell(n impl.Node) string {
	kid := func(i int) string { return g.spell(n.Kids[i]) }
	s := ""
	switch n.Kind {
	case impl.NkBlock:
		for i, k := range n.Kids {
			next := ""
			if i+1 < len(n.Kids) {
				next = g.spell(n.Kids[i+1])
			}
			// The spelling told here is another one than next, but begins with a bracket as often as the tree has to.
			needed := next != "" && (k.Kind == impl.NkReturn && len(k.Kids) == 0 || n.Kids[i+1].Kind == impl.NkSet || n.Kids[i+1].Kind == impl.NkDo)
			s += g.spell(k) + " "
			if needed || g.below(2) == 0 {
				s += "; "
			}
		}
		return s
	case impl.NkLocal:
		s = "local " + n.Text
		if len(n.Kids) > 0 {
			s += " = " + kid(0)
		}
	case impl.NkRec:
		s = "local function " + n.Text + strings.TrimPrefix(kid(0), "function")
	case impl.NkIf:
		s = "if " + kid(0) + " then " + kid(1)
		if len(n.Kids) > 2 {
			s += " else " + kid(2)
		}
		s += " end"
	case impl.NkWhile:
		s = "while " + kid(0) + " do " + kid(1) + " end"
	case impl.NkReturn:
		s = "return"
		if len(n.Kids) > 0 {
			s += " " + kid(0)
		}
	case impl.NkBreak:
		s = "break"
	case impl.NkSet:
		s = g.maybeBrackets(kid(0)) + " = " + kid(1)
	case impl.NkDo:
		s = g.maybeBrackets(kid(0))
	default:
		return g.spellExpression(n)
	}
	return s
}

func (g *grower) maybeBrackets(s string) string {
	if g.below(6) == 0 {
		return "(" + s + ")"
	}
	return s
}

func (g *grower) spellExpression(n impl.Node) string {
	switch n.Kind {
	case impl.NkNil, impl.NkTrue, impl.NkFalse:
		return kindNames[n.Kind]
	case impl.NkInt:
		return strconv.Itoa(n.N)
	case impl.NkText:
		return impl.Quote(n.Text)
	case impl.NkName:
		return g.maybeBrackets(n.Text)
	case impl.NkTable:
		return g.maybeBrackets("{}")
	case impl.NkFunc:
		return "function(" + strings.Join(n.Names, ", ") + ") " + g.spell(n.Kids[0]) + "end"
	case impl.NkIndex:
		head := g.spellHead(n.Kids[0])
		if key := n.Kids[1]; key.Kind == impl.NkText && key.Text == "a_b" && g.below(2) == 0 {
			return head + "." + key.Text
		}
		return head + "[" + g.spell(n.Kids[1]) + "]"
	case impl.NkCall:
		var list []string
		for _, k := range n.Kids[1:] {
			list = append(list, g.spell(k))
		}
		return g.spellHead(n.Kids[0]) + "(" + strings.Join(list, ", ") + ")"
	case impl.NkBin:
		rank := rankIn(n.Text)
		if n.Text == ".." {
			return g.spellAt(n.Kids[0], rank+1) + " .. " + g.spellAt(n.Kids[1], rank)
		}
		return g.spellAt(n.Kids[0], rank) + " " + n.Text + " " + g.spellAt(n.Kids[1], rank+1)
	}
	return n.Text + " " + g.spellAt(n.Kids[0], len(ranks))
}

func (g *grower) spellHead(n impl.Node) string {
	s := g.spell(n)
	if n.Kind == impl.NkName || n.Kind == impl.NkIndex || n.Kind == impl.NkCall {
		return s
	}
	return "(" + s + ")"
}

func (g *grower) spellAt(n impl.Node, least int) string {
	s := g.spell(n)
	if n.Kind == impl.NkBin && rankIn(n.Text) < least {
		return "(" + s + ")"
	}
	return g.maybeBrackets(s)
}

func TestProgramsComeBack(t *testing.T) {
	t.Parallel()
	g := grower{dice: dice{seed: 5}}
	var met [21]int
	for range 6000 {
		g.budget = 1 + g.below(60)
		tree := g.block(4 + g.below(27))
		wantElder(t, mustWords(t, impl.Show(tree)))
		src := g.spell(tree)
		if len(src) > impl.MaxSource || len(impl.Show(tree)) > impl.MaxSource {
			continue
		}
		for _, s := range []string{src, impl.Show(tree), strings.Join(impl.Plain(tree), "\n\t")} {
			wantTree(t, s, outline(tree, false))
		}
		countKinds(tree, &met)
	}
	for kind, count := range met {
		if count < 500 {
			t.Error("too few of kind", kindNames[kind], count)
		}
	}
}

func countKinds(n impl.Node, met *[21]int) {
	met[n.Kind]++
	for _, kid := range n.Kids {
		countKinds(kid, met)
	}
}

func mustWords(t *testing.T, src string) []impl.Token {
	t.Helper()
	if len(src) > impl.MaxSource {
		return nil
	}
	return wordsInLines(t, src)
}

func TestProgramsChanged(t *testing.T) {
	g := grower{dice: dice{seed: 6}}
	words := anyWords()
	read := 0
	for range 3000 {
		g.budget = 1 + g.below(30)
		list := mustWords(t, strings.Join(impl.Plain(g.block(4+g.below(12))), " "))
		for range 5 {
			changed := slices.Clone(list)
			for range 1 + g.below(3) {
				at := g.below(len(changed) + 1)
				switch g.below(3) {
				case 0:
					changed = slices.Insert(changed, at, words[g.below(len(words))])
				case 1:
					changed = slices.Delete(changed, at, min(at+1, len(changed)))
				case 2:
					if at < len(changed) {
						changed[at] = words[g.below(len(words))]
					}
				}
			}
			for i := range changed {
				changed[i].Line = i + 1
			}
			if wantElder(t, changed) {
				read++
			}
		}
	}
	if read < 500 {
		t.Error("too few are read:", read)
	}
}

func (d *dice) token() impl.Token {
	words := anyWords()
	if d.below(3) > 0 {
		return words[d.below(len(words))]
	}
	texts := append([]string{"", "a", "\xff", "!", "==="}, signs...)
	texts = append(texts, keywords...)
	return impl.Token{Kind: d.below(8) - 1, Text: texts[d.below(len(texts))], N: d.below(9) - 4, Line: d.below(9) - 4}
}

func TestAnyWords(t *testing.T) {
	t.Parallel()
	d := dice{seed: 7}
	for range 40000 {
		var list []impl.Token
		for range d.below(12) {
			list = append(list, d.token())
		}
		roomy := append(slices.Clone(list), impl.Token{Kind: 77, Text: "spare", N: 1, Line: 2})[:len(list)]
		wantElder(t, roomy)
		if !slices.Equal(roomy, list) || roomy[:len(list)+1][len(list)] != (impl.Token{Kind: 77, Text: "spare", N: 1, Line: 2}) {
			t.Fatal("Parse writes into", list)
		}
	}
}

func (g *grower) anyNode(depth int) impl.Node {
	n := impl.Node{Kind: g.below(24) - 1, Text: g.pick("", "a", "end", "+", "\xff"), N: g.below(5) - 2, Line: g.below(5) - 2}
	for range g.below(3) {
		n.Names = append(n.Names, g.pick("", "a", "a", "b", "if"))
	}
	if depth > 0 {
		for range g.below(4) {
			n.Kids = append(n.Kids, g.anyNode(depth-1))
		}
	}
	return n
}

// Promise 13, for this chapter: each tree is answered, and nothing is written into it.
func TestAnyTrees(t *testing.T) {
	g := grower{dice: dice{seed: 8}}
	for range 3000 {
		a, b := g.anyNode(5), g.anyNode(2)
		told, other := outline(a, true), outline(b, true)
		words := impl.Plain(a)
		if impl.Show(a) != strings.Join(words, " ") || impl.Size(a) != countNodes(a) || !impl.SameTree(a, a) {
			t.Fatal("answers of", told)
		}
		if impl.SameTree(a, b) != (outline(a, false) == outline(b, false)) {
			t.Fatal("SameTree of", told, other)
		}
		for i := range words {
			words[i] = "spoilt"
		}
		if outline(a, true) != told || outline(b, true) != other {
			t.Fatal("written into", told, other)
		}
	}
}

// bare cuts each list off behind its last item, so that whatever is put behind it goes elsewhere.
func bare(n impl.Node) impl.Node {
	n.Names = slices.Clip(slices.Clone(n.Names))
	var kids []impl.Node
	for _, kid := range n.Kids {
		kids = append(kids, bare(kid))
	}
	n.Kids = kids
	return n
}

// spoil writes into every list of a tree, and into the room behind it.
func spoil(n *impl.Node) {
	for i := range n.Kids {
		spoil(&n.Kids[i])
		n.Kids[i] = impl.Node{Kind: -1}
	}
	for i := range n.Names {
		n.Names[i] = "spoilt"
	}
	_ = append(n.Kids, impl.Node{Kind: -2})
	_ = append(n.Names, "behind")
}

func TestTreesAreNewMemory(t *testing.T) {
	list := wordsInLines(t, ordinary)
	kept := slices.Clone(list)
	first, _ := impl.Parse(list)
	second, _ := impl.Parse(list)
	told := outline(first, true)
	spoil(&first)
	if outline(second, true) != told || !slices.Equal(list, kept) {
		t.Error("two answers, or an answer and its argument, share memory")
	}
	third, _ := impl.Parse(list)
	for i := range list {
		list[i] = impl.Token{}
	}
	if outline(third, true) != told {
		t.Error("an answer changes with its argument")
	}
	// Each list of one answer is spoilt by itself; the others stay.
	whole := bare(third)
	spoilEach(t, &third, &third, &whole, &whole)
	if outline(third, true) != told {
		t.Error("two lists of an answer share memory")
	}
	words := impl.Plain(whole)
	_ = append(words, "behind")
	words[0] = "spoilt"
	if outline(whole, true) != told || impl.Plain(whole)[0] == "spoilt" {
		t.Error("Plain shares memory")
	}
}

// spoilEach writes behind and into each list of n, and asks that nothing else of the whole tree has become another.
func spoilEach(t *testing.T, whole *impl.Node, n *impl.Node, wantWhole *impl.Node, want *impl.Node) {
	t.Helper()
	_ = append(n.Kids, impl.Node{Kind: -2})
	_ = append(n.Names, "behind")
	for i := range n.Names {
		n.Names[i], want.Names[i] = n.Names[i]+"x", want.Names[i]+"x"
		if outline(*whole, true) != outline(*wantWhole, true) {
			t.Fatal("two lists of an answer share memory")
		}
		n.Names[i], want.Names[i] = n.Names[i][:len(n.Names[i])-1], want.Names[i][:len(want.Names[i])-1]
	}
	for i := range n.Kids {
		n.Kids[i].N, want.Kids[i].N = n.Kids[i].N+1, want.Kids[i].N+1
		if outline(*whole, true) != outline(*wantWhole, true) {
			t.Fatal("two lists of an answer share memory")
		}
		n.Kids[i].N, want.Kids[i].N = n.Kids[i].N-1, want.Kids[i].N-1
		spoilEach(t, whole, &n.Kids[i], wantWhole, &want.Kids[i])
	}
}

// A second reading answers the same, whatever was read between, refused or not.
func TestNothingIsKept(t *testing.T) {
	g := grower{dice: dice{seed: 9}}
	n, _ := impl.Read(ordinary)
	told := outline(n, true)
	for range 200 {
		impl.Read(g.join(sourcePieces, g.below(20)))
		again, line := impl.Read(ordinary)
		if line != 0 || outline(again, true) != told {
			t.Fatal("another answer", line)
		}
	}
}

// Promise 2 again, for sources of any pieces: what is read at all comes back.
func TestSourcesOfAnyPieces(t *testing.T) {
	d := dice{seed: 10}
	pieces := strings.Fields("a b f 1 \"\" \"a\\n\" nil true = = ( ) ( ) [ ] . , ; { } {} f() a.b local local function() end end if then else while do return break not - # + .. == and or * x=1")
	read := 0
	for range 150000 {
		src := strings.Join(strings.Fields(d.spaced(pieces, 1+d.below(9))), "\n")
		list, line := impl.Lex(src)
		if line != 0 {
			t.Fatalf("Lex of %q: %d", src, line)
		}
		if wantElder(t, list) {
			read++
			n, _ := impl.Read(src)
			wantTreeBack(t, n)
		}
	}
	if read < 1000 {
		t.Error("too few are read:", read)
	}
}

func (d *dice) spaced(pieces []string, count int) string {
	var list []string
	for range count {
		list = append(list, pieces[d.below(len(pieces))])
	}
	return strings.Join(list, " ")
}
