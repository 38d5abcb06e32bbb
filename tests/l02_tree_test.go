package tests

import (
	"fmt"
	"runtime/debug"
	"slices"
	"strconv"
	"strings"
	"testing"

	"loop.example/g00258/impl"
)

var kindNames = strings.Fields("block local rec if while return break set do nil true false int text name table func index call bin un")

// outline tells a tree whole, so that two trees are alike where their outlines are; lines only where they are asked for.
func outline(n impl.Node, lines bool) string {
	var b strings.Builder
	writeOutline(&b, n, lines)
	return b.String()
}

func writeOutline(b *strings.Builder, n impl.Node, lines bool) {
	kind := strconv.Itoa(n.Kind)
	if n.Kind >= 0 && n.Kind < len(kindNames) {
		kind = kindNames[n.Kind]
	}
	b.WriteString(kind)
	if n.Text != "" {
		b.WriteString(":" + strings.Trim(strconv.Quote(n.Text), "\""))
	}
	if n.N != 0 {
		b.WriteString("=" + strconv.Itoa(n.N))
	}
	if len(n.Names) > 0 {
		b.WriteString("[" + strings.Join(n.Names, ",") + "]")
	}
	if lines {
		b.WriteString("@" + strconv.Itoa(n.Line))
	}
	if len(n.Kids) > 0 {
		b.WriteString("(")
		for i, kid := range n.Kids {
			if i > 0 {
				b.WriteString(" ")
			}
			writeOutline(b, kid, lines)
		}
		b.WriteString(")")
	}
}

// wantTree asks for a program with this outline, told again and read again as the same tree.
func wantTree(t *testing.T, src string, want string) {
	t.Helper()
	n, line := impl.Read(src)
	if got := outline(n, false); line != 0 || got != want {
		t.Fatalf("Read of %.200q: %.600s %d, not %.600s", src, got, line, want)
	}
	wantTreeBack(t, n)
}

func wantLines(t *testing.T, src string, want string) {
	t.Helper()
	n, line := impl.Read(src)
	if got := outline(n, true); line != 0 || got != want {
		t.Fatalf("Read of %.200q: %s %d, not %s", src, got, line, want)
	}
}

// wantTreeBack asks for promise 2.
func wantTreeBack(t *testing.T, n impl.Node) {
	t.Helper()
	shown := impl.Show(n)
	if len(shown) > impl.MaxSource {
		return
	}
	again, line := impl.Read(shown)
	if line != 0 || !impl.SameTree(n, again) || outline(n, false) != outline(again, false) {
		t.Fatalf("%.300q is read as %.600s %d, not %.600s", shown, outline(again, false), line, outline(n, false))
	}
	if again := impl.Show(again); again != shown {
		t.Fatalf("shown again: %.600q, not %.600q", again, shown)
	}
}

func wantMisfit(t *testing.T, src string, want int) {
	t.Helper()
	n, line := impl.Read(src)
	if line != want || outline(n, true) != "block@0" {
		t.Fatalf("Read of %.200q: %.300s %d, not line %d", src, outline(n, true), line, want)
	}
}

// inLines puts each word of a source without texts and comments into a line of its own.
func inLines(src string) string {
	return strings.Join(strings.Fields(src), "\n")
}

func TestTreesOfStatements(t *testing.T) {
	for _, c := range []struct{ src, tree string }{
		{"", "block"},
		{" \n-- nothing\n", "block"},
		{"local a", "block(local:a)"},
		{"local a = nil", "block(local:a(nil))"},
		{"local a = a", "block(local:a(name:a))"},
		{"local function f() end", "block(rec:f(func(block)))"},
		{"local function f(a) return a end", "block(rec:f(func[a](block(return(name:a)))))"},
		{"local function f(f, g) break end", "block(rec:f(func[f,g](block(break))))"},
		{"if a then end", "block(if(name:a block))"},
		{"if a then else end", "block(if(name:a block block))"},
		{"if a then b() else c() d() end", "block(if(name:a block(do(call(name:b))) block(do(call(name:c)) do(call(name:d)))))"},
		{"if a then if b then end else end", "block(if(name:a block(if(name:b block)) block))"},
		{"if a then if b then else end end", "block(if(name:a block(if(name:b block block))))"},
		{"while true do break end", "block(while(true block(break)))"},
		{"while a do while b do end end", "block(while(name:a block(while(name:b block))))"},
		{"return", "block(return)"},
		{"return 1", "block(return(int=1))"},
		{"break", "block(break)"},
		{"a = 1", "block(set(name:a int=1))"},
		{"a[b] = 1", "block(set(index(name:a name:b) int=1))"},
		{"a.b = 1", "block(set(index(name:a text:b) int=1))"},
		{"f().b = 1", "block(set(index(call(name:f) text:b) int=1))"},
		{"f()", "block(do(call(name:f)))"},
		{"a.b(1)", "block(do(call(index(name:a text:b) int=1)))"},
		{"f()()", "block(do(call(call(name:f))))"},
		{"a = 1 b = 2 f() local c return", "block(set(name:a int=1) set(name:b int=2) do(call(name:f)) local:c return)"},
	} {
		wantTree(t, c.src, c.tree)
	}
}

func TestTreesOfExpressions(t *testing.T) {
	for _, c := range []struct{ src, tree string }{
		{"nil", "nil"}, {"true", "true"}, {"false", "false"}, {"0", "int"}, {"007", "int=7"}, {"999999999999", "int=999999999999"},
		{`""`, "text"}, {`"a"`, "text:a"}, {`"end"`, "text:end"}, {`"\n\"\\"`, `text:\n\"\\`}, {"\"\xff\x00\"", `text:\xff\x00`},
		{"a", "name:a"}, {"_", "name:_"}, {"{}", "table"}, {"{ }", "table"},
		{"function() end", "func(block)"}, {"function(a, b) return end", "func[a,b](block(return))"},
		{"a[1]", "index(name:a int=1)"}, {"a[b[c]]", "index(name:a index(name:b name:c))"}, {"a[1][2]", "index(index(name:a int=1) int=2)"},
		{"a.b", "index(name:a text:b)"}, {"a.b.c", "index(index(name:a text:b) text:c)"},
		{"f()", "call(name:f)"}, {"f(1)", "call(name:f int=1)"}, {"f(1, nil)", "call(name:f int=1 nil)"}, {"f(g())", "call(name:f call(name:g))"},
		{"f(1)(2)", "call(call(name:f int=1) int=2)"}, {"a.f(b)[c](d).e", "index(call(index(call(index(name:a text:f) name:b) name:c) name:d) text:e)"},
		{"f((1), (a))", "call(name:f int=1 name:a)"}, {"f(a + b)", "call(name:f bin:+(name:a name:b))"},
		{"a[1 + 2]", "index(name:a bin:+(int=1 int=2))"}, {"a[\"b\"]", "index(name:a text:b)"},
		{"1 + 2", "bin:+(int=1 int=2)"}, {"-1", "un:-(int=1)"}, {"not nil", "un:not(nil)"}, {"#\"a\"", "un:#(text:a)"},
		{"(1)", "int=1"}, {"((1))", "int=1"}, {"(1 + 2) * 3", "bin:*(bin:+(int=1 int=2) int=3)"}, {"-(1 + 2)", "un:-(bin:+(int=1 int=2))"},
		{"(f())", "call(name:f)"}, {"(function() end)", "func(block)"}, {"{} .. {}", "bin:..(table table)"},
	} {
		wantTree(t, "x = "+c.src, "block(set(name:x "+c.tree+"))")
		wantTree(t, "return("+c.src+")", "block(return("+c.tree+"))")
		wantTree(t, "f(a, "+c.src+") local b", "block(do(call(name:f name:a "+c.tree+")) local:b)")
	}
}

// ranks is the document's list, the loosest first.
var ranks = [][]string{{"or"}, {"and"}, {"==", "~=", "<", "<=", ">", ">="}, {".."}, {"+", "-"}, {"*", "//", "%"}}

func rankIn(sign string) int {
	return slices.IndexFunc(ranks, func(rank []string) bool { return slices.Contains(rank, sign) })
}

func TestRanks(t *testing.T) {
	all := slices.Concat(ranks...)
	for _, s := range all {
		wantTree(t, "x = a "+s+" b", "block(set(name:x bin:"+s+"(name:a name:b)))")
		for _, z := range all {
			left := "bin:" + z + "(bin:" + s + "(name:a name:b) name:c)"
			right := "bin:" + s + "(name:a bin:" + z + "(name:b name:c))"
			tree := left
			if rankIn(z) > rankIn(s) || s == ".." && z == ".." {
				tree = right
			}
			wantTree(t, "x = a "+s+" b "+z+" c", "block(set(name:x "+tree+"))")
			wantTree(t, "x = (a "+s+" b) "+z+" c", "block(set(name:x "+left+"))")
			wantTree(t, "x = a "+s+" (b "+z+" c)", "block(set(name:x "+right+"))")
		}
	}
	wantTree(t, "return a or b and c == d .. e + f * g", "block(return(bin:or(name:a bin:and(name:b bin:==(name:c bin:..(name:d bin:+(name:e bin:*(name:f name:g))))))))")
	wantTree(t, "return a * b + c .. d == e and f or g", "block(return(bin:or(bin:and(bin:==(bin:..(bin:+(bin:*(name:a name:b) name:c) name:d) name:e) name:f) name:g)))")
	wantTree(t, "return a .. b .. c .. d", "block(return(bin:..(name:a bin:..(name:b bin:..(name:c name:d)))))")
	wantTree(t, "return a .. b + c .. d", "block(return(bin:..(name:a bin:..(bin:+(name:b name:c) name:d))))")
	wantTree(t, "return a - b + c - d", "block(return(bin:-(bin:+(bin:-(name:a name:b) name:c) name:d)))")
	wantTree(t, "return a < b == c", "block(return(bin:==(bin:<(name:a name:b) name:c)))")
}

func TestSignsAhead(t *testing.T) {
	for _, s := range []string{"not", "-", "#"} {
		for _, z := range slices.Concat(ranks...) {
			wantTree(t, "x = "+s+" a "+z+" b", "block(set(name:x bin:"+z+"(un:"+s+"(name:a) name:b)))")
			wantTree(t, "x = a "+z+" "+s+" b", "block(set(name:x bin:"+z+"(name:a un:"+s+"(name:b))))")
			wantTree(t, "x = "+s+" (a "+z+" b)", "block(set(name:x un:"+s+"(bin:"+z+"(name:a name:b))))")
		}
		wantTree(t, "x = "+s+" a.b[1](c)", "block(set(name:x un:"+s+"(call(index(index(name:a text:b) int=1) name:c))))")
		wantTree(t, "x = ("+s+" a)[1]", "block(set(name:x index(un:"+s+"(name:a) int=1)))")
		wantTree(t, "("+s+" a)(1)", "block(do(call(un:"+s+"(name:a) int=1)))")
		for count := range 29 {
			wantTree(t, "x = "+strings.Repeat(s+" ", count)+"a", "block(set(name:x "+strings.Repeat("un:"+s+"(", count)+"name:a"+strings.Repeat(")", count)+"))")
		}
	}
	wantTree(t, "x = - # not - a", "block(set(name:x un:-(un:#(un:not(un:-(name:a))))))")
	wantTree(t, "x = a - - - b", "block(set(name:x bin:-(name:a un:-(un:-(name:b)))))")
	wantTree(t, "x = not not a and not b", "block(set(name:x bin:and(un:not(un:not(name:a)) un:not(name:b))))")
	wantMisfit(t, "x = a not b", 1)
	wantMisfit(t, "x = a # b", 1)
	wantMisfit(t, "x = + a", 1)
}

var someStatements = []struct{ src, tree string }{
	{"local a", "local:a"}, {"local a = 1", "local:a(int=1)"}, {"local function f() end", "rec:f(func(block))"},
	{"if a then end", "if(name:a block)"}, {"while a do end", "while(name:a block)"}, {"return 1", "return(int=1)"}, {"break", "break"},
	{"a = b", "set(name:a name:b)"}, {"a.b = {}", "set(index(name:a text:b) table)"}, {"f(1)", "do(call(name:f int=1))"},
}

func TestSemicolons(t *testing.T) {
	for _, a := range someStatements {
		for _, b := range someStatements {
			for _, gap := range []string{" ", ";", " ; ", "\n;\n"} {
				wantTree(t, a.src+gap+b.src, "block("+a.tree+" "+b.tree+")")
				wantTree(t, a.src+gap+b.src+";", "block("+a.tree+" "+b.tree+")")
				wantTree(t, "if x then "+a.src+gap+b.src+" end", "block(if(name:x block("+a.tree+" "+b.tree+")))")
				wantTree(t, "while x do "+a.src+gap+b.src+" ; end ; return function() "+b.src+gap+" end", "block(while(name:x block("+a.tree+" "+b.tree+")) return(func(block("+b.tree+"))))")
			}
		}
		wantMisfit(t, a.src+";\n;", 2)
		wantMisfit(t, ";"+a.src, 1)
		wantMisfit(t, "if a then ; "+a.src+" end", 1)
	}
	wantTree(t, "return;", "block(return)")
	wantTree(t, "return; a = 1", "block(return set(name:a int=1))")
	wantMisfit(t, "\n;", 2)
}

func TestReturns(t *testing.T) {
	for _, s := range someStatements {
		beginsExpression := s.tree == "set(name:a name:b)" || strings.HasPrefix(s.tree, "set(index") || strings.HasPrefix(s.tree, "do(")
		wantTree(t, "return; "+s.src, "block(return "+s.tree+")")
		wantTree(t, "return 1 "+s.src, "block(return(int=1) "+s.tree+")")
		if !beginsExpression {
			wantTree(t, "return "+s.src, "block(return "+s.tree+")")
			wantTree(t, "if x then return "+s.src+" return else return end return", "block(if(name:x block(return "+s.tree+" return) block(return)) return)")
		}
	}
	wantTree(t, "return f() g()", "block(return(call(name:f)) do(call(name:g)))")
	wantTree(t, "return (f)()", "block(return(call(name:f)))")
	wantTree(t, "return function() return end return", "block(return(func(block(return))) return)")
	wantTree(t, "while a do return end", "block(while(name:a block(return)))")
	for _, ahead := range []string{"not a", "- a", "# a", "nil", "true", "false", "1", `"a"`, "a", "{}", "function() end", "(a)"} {
		n, line := impl.Read("return " + ahead)
		if line != 0 || len(n.Kids) != 1 || len(n.Kids[0].Kids) != 1 {
			t.Error("return", ahead, outline(n, false), line)
		}
	}
	wantMisfit(t, "return a\n= 1", 2)
	wantMisfit(t, "return )", 1)
	wantMisfit(t, "return 1,\n2", 1)
}

func TestRoundBrackets(t *testing.T) {
	for _, c := range []struct{ src, tree string }{
		{"(a) = 1", "set(name:a int=1)"}, {"((a)) = 1", "set(name:a int=1)"}, {"(a.b) = 1", "set(index(name:a text:b) int=1)"},
		{"(a[1]) = 1", "set(index(name:a int=1) int=1)"}, {"(a)[1] = 1", "set(index(name:a int=1) int=1)"}, {"(a).b = 1", "set(index(name:a text:b) int=1)"},
		{"((a).b).c = 1", "set(index(index(name:a text:b) text:c) int=1)"},
		{"(f)()", "do(call(name:f))"}, {"(f())", "do(call(name:f))"}, {"((f)())", "do(call(name:f))"}, {"(f())()", "do(call(call(name:f)))"}, {"(a.b)()", "do(call(index(name:a text:b)))"},
		{"(function() end)()", "do(call(func(block)))"}, {"(1)(2)", "do(call(int=1 int=2))"}, {"(nil).a = 1", "set(index(nil text:a) int=1)"},
		{"(true)[1] = 1", "set(index(true int=1) int=1)"}, {"(\"a\").b()", "do(call(index(text:a text:b)))"}, {"({})[1] = 1", "set(index(table int=1) int=1)"},
		{"(a + b)(c)", "do(call(bin:+(name:a name:b) name:c))"}, {"(-a)[1] = 1", "set(index(un:-(name:a) int=1) int=1)"}, {"(not f)()()", "do(call(call(un:not(name:f))))"},
		{"x = a (b)(c)", "set(name:x call(call(name:a name:b) name:c))"}, {"x = a.b (c)", "set(name:x call(index(name:a text:b) name:c))"},
	} {
		wantTree(t, c.src, "block("+c.tree+")")
		wantTree(t, "local y = 1 "+c.src+" break", "block(local:y(int=1) "+c.tree+" break)")
	}
	// What is no prefix has no call behind it, so that a bracket begins a statement there.
	for _, c := range []struct{ src, tree string }{
		{"1", "int=1"}, {"nil", "nil"}, {"true", "true"}, {"false", "false"}, {`"a"`, "text:a"}, {"{}", "table"}, {"function() end", "func(block)"},
	} {
		wantTree(t, "x = "+c.src+" (y)(1)", "block(set(name:x "+c.tree+") do(call(name:y int=1)))")
		wantTree(t, "x = -"+c.src+" (y) = 1", "block(set(name:x un:-("+c.tree+")) set(name:y int=1))")
		wantMisfit(t, "x = "+c.src+"\n[1] = 2", 2)
		wantMisfit(t, "x = "+c.src+"\n.y = 2", 2)
		wantMisfit(t, "("+c.src+")\n= 2", 2)
		wantMisfit(t, "("+c.src+")\n", 1)
	}
	wantTree(t, "local a (b)()", "block(local:a do(call(name:b)))")
	wantTree(t, "break (b)()", "block(break do(call(name:b)))")
	wantMisfit(t, "x = a (b)\n= 1", 2)
	wantMisfit(t, "f()\n= 1", 2)
	wantMisfit(t, "(f())\n= 1", 2)
	wantMisfit(t, "(a + b)\n= 1", 2)
	wantMisfit(t, "(a)\nb = 1", 2)
	wantMisfit(t, "(a = 1)", 1)
	wantMisfit(t, "x = ()", 1)
}

func someNames(count int) []string {
	var list []string
	for i := range count {
		list = append(list, "n"+strconv.Itoa(i))
	}
	return list
}

func TestNamesInBrackets(t *testing.T) {
	for count := range 9 {
		list := someNames(count)
		told := ""
		if count > 0 {
			told = "[" + strings.Join(list, ",") + "]"
		}
		wantTree(t, "local function f("+strings.Join(list, ", ")+") end", "block(rec:f(func"+told+"(block)))")
		wantTree(t, "x = function("+strings.Join(list, ",")+") end", "block(set(name:x func"+told+"(block)))")
	}
	for count := 9; count < 12; count++ {
		wantMisfit(t, inLines("local function f ( "+strings.Join(someNames(count), " , ")+" ) end"), 4+17)
		wantMisfit(t, inLines("x = function ( "+strings.Join(someNames(count), " , ")+" ) end"), 4+17)
	}
	for again := 1; again < 8; again++ {
		for first := range again {
			list := someNames(8)
			list[again] = list[first]
			wantMisfit(t, inLines("x = function ( "+strings.Join(list, " , ")+" ) end"), 4+2*again+1)
		}
	}
	// The ninth name is refused where it stands, be it another one or one that stands there already.
	wantMisfit(t, inLines("x = function ( "+strings.Join(append(someNames(8), "n0"), " , ")+" ) end"), 4+17)
	wantMisfit(t, inLines("x = function ( "+strings.Join(someNames(8), " , ")+" , ) end"), 4+17)
	wantTree(t, "x = function(x, f, X) end", "block(set(name:x func[x,f,X](block)))")
	for _, within := range []string{",", "a ,", "a b", "1", `"a"`, "end", "(a)", "a.b", "a, , b", "a ; b"} {
		wantMisfit(t, "x = function("+within+") end", 1)
	}
	wantMisfit(t, "local function f.g() end", 1)
	wantMisfit(t, "local function () end", 1)
	wantMisfit(t, "x = function f() end", 1)
}

func TestArguments(t *testing.T) {
	for count := range 9 {
		list := someNames(count)
		told := ""
		for _, name := range list {
			told += " name:" + name
		}
		wantTree(t, "f("+strings.Join(list, ",")+")", "block(do(call(name:f"+told+")))")
		wantTree(t, "x = f("+strings.Join(list, " , ")+")", "block(set(name:x call(name:f"+told+")))")
	}
	for count := 9; count < 12; count++ {
		wantMisfit(t, inLines("f ( "+strings.Join(someNames(count), " , ")+" )"), 2+17)
	}
	eight := strings.TrimSuffix(strings.Repeat("- ( 1 ) , ", 8), ", ")
	wantMisfit(t, inLines("f ( "+eight+" , - ( 1 ) )"), 2+40+1)
	wantMisfit(t, inLines("f ( "+eight+" , )"), 2+40+1)
	wantMisfit(t, inLines("f ( "+eight+" ,"), 2+40)
	wantTree(t, "f(a, a, f(a, a))", "block(do(call(name:f name:a name:a call(name:f name:a name:a))))")
	for _, within := range []string{",", "a ,", "a b", ", a", "a, , b", "a = 1", "local a", "a ; b", "end"} {
		wantMisfit(t, "f("+within+")", 1)
	}
}

func TestLinesOfNodes(t *testing.T) {
	for _, c := range []struct{ src, tree string }{
		{"local a", "block@1(local:a@1)"},
		{"local a = 1", "block@1(local:a@1(int=1@4))"},
		{"local function f ( a ) break end", "block@1(rec:f@1(func[a]@2(block@7(break@7))))"},
		{"local function f ( ) end", "block@1(rec:f@1(func@2(block@6)))"},
		{"if a then break else return end", "block@1(if@1(name:a@2 block@4(break@4) block@6(return@6)))"},
		{"if a then else end", "block@1(if@1(name:a@2 block@4 block@5))"},
		{"while a do end", "block@1(while@1(name:a@2 block@4))"},
		{"while ( a ) do ( f ) ( ) end", "block@1(while@1(name:a@3 block@6(do@7(call@7(name:f@7)))))"},
		{"return ( ( nil ) )", "block@1(return@1(nil@4))"},
		{"return ; break ; return", "block@1(return@1 break@3 return@5)"},
		{"a = true", "block@1(set@1(name:a@1 true@3))"},
		{"( ( a ) ) = ( false )", "block@1(set@3(name:a@3 false@8))"},
		{"( f ) ( )", "block@1(do@2(call@2(name:f@2)))"},
		{"( ( f ( ) ) )", "block@1(do@3(call@3(name:f@3)))"},
		{"( - 1 ) [ 2 ] = 3", "block@1(set@2(index@2(un:-@2(int=1@3) int=2@6) int=3@9))"},
		{"a . b [ c ] = { }", "block@1(set@1(index@1(index@1(name:a@1 text:b@3) name:c@5) table@8))"},
		{"( a ) . b ( c , ( d ) )", "block@1(do@2(call@2(index@2(name:a@2 text:b@5) name:c@7 name:d@10)))"},
		{"x = ( ( a ) + b ) * ( ( c ) )", "block@1(set@1(name:x@1 bin:*@5(bin:+@5(name:a@5 name:b@8) name:c@13)))"},
		{"x = ( - ( a ) ) .. b", "block@1(set@1(name:x@1 bin:..@4(un:-@4(name:a@6) name:b@10)))"},
		{"x = a .. b .. c", "block@1(set@1(name:x@1 bin:..@3(name:a@3 bin:..@5(name:b@5 name:c@7))))"},
		{"x = not ( # a )", "block@1(set@1(name:x@1 un:not@3(un:#@5(name:a@6))))"},
		{"x = ( function ( ) return end ) ( )", "block@1(set@1(name:x@1 call@4(func@4(block@7(return@7)))))"},
		{"x = a or b and c", "block@1(set@1(name:x@1 bin:or@3(name:a@3 bin:and@5(name:b@5 name:c@7))))"},
	} {
		wantLines(t, inLines(c.src), c.tree)
	}
	wantLines(t, "", "block@0")
	wantLines(t, "\n\n  -- c\n", "block@0")
	wantLines(t, "\n\n(\na) = \"b\"", "block@3(set@4(name:a@4 text:b@4))")
	wantLines(t, "a = 1 b = 2\nc = 3", "block@1(set@1(name:a@1 int=1@1) set@1(name:b@1 int=2@1) set@2(name:c@2 int=3@2))")
}

func TestMisfitLines(t *testing.T) {
	for _, c := range []struct {
		src  string
		line int
	}{
		{"x", 1}, {"x =", 2}, {"x 1", 2}, {"x = =", 3}, {"x = 1 2", 4}, {"x = 1 = 2", 4}, {"x = 1 y", 4}, {"x == 1", 2}, {"1 = 2", 1}, {"f ( ) = 1", 4}, {"f ( ) . = 1", 5},
		{"local", 1}, {"local 1", 2}, {"local if", 2}, {"local a b", 3}, {"local a = ", 3}, {"local a . b", 3}, {"local ( a )", 2}, {"local a , b", 3},
		{"local function", 2}, {"local function f", 3}, {"local function f a", 4}, {"local function f (", 4}, {"local function f ( a", 5}, {"local function f ( a ,", 6},
		{"local function f ( a )", 6}, {"local function f ( ) a = 1", 8}, {"local function f ( ) else", 6},
		{"if", 1}, {"if then", 2}, {"if a", 2}, {"if a do", 3}, {"if a then", 3}, {"if a then b ( )", 6}, {"if a then else", 4}, {"if a then else else", 5}, {"if a then end end", 5}, {"if a then do", 4},
		{"while", 1}, {"while do", 2}, {"while a", 2}, {"while a then", 3}, {"while a do", 3}, {"while a do else", 4},
		{"break 1", 2}, {"break a", 2}, {"return return 1 2", 4}, {"return end", 2}, {"end", 1}, {"else", 1}, {"then", 1}, {"do", 1}, {"do end", 1}, {"function f ( ) end", 1}, {"function", 1},
		{"not a", 1}, {"nil", 1}, {"{ }", 1}, {"- 1", 1}, {"[ a ] = 1", 1}, {". a = 1", 1}, {", a", 1}, {") a", 1},
		{"x = (", 3}, {"x = ( 1", 4}, {"x = ( 1 ]", 5}, {"x = [ 1 ]", 3}, {"x = {", 3}, {"x = { 1 }", 4}, {"x = a [", 4}, {"x = a [ ]", 5}, {"x = a [ 1", 5}, {"x = a [ 1 )", 6},
		{"x = a .", 4}, {"x = a . 1", 5}, {"x = a . end", 5}, {"x = a . ( b )", 5}, {"x = a (", 4}, {"x = a ( b", 5}, {"x = a ( b ,", 6}, {"x = a ( b ]", 6},
		{"x = a +", 4}, {"x = a + *", 5}, {"x = a .. ..", 5}, {"x = not", 3}, {"x = - )", 4}, {"x = a and", 4}, {"x = a and or b", 5}, {"x = a ~= ; y = 1", 5},
		{"x = function", 3}, {"x = function (", 4}, {"x = function ( )", 5}, {"x = function ( ) end end", 7}, {"x = 1 ; ; y = 2", 5}, {"( x", 2}, {"( x )", 3}, {"( x ) y", 4}, {"( x ) ; y = 1", 4},
		{"a . b", 3}, {"a . b c", 4}, {"a . b . c ;", 6}, {"a [ 1 ]", 4}, {"a [ 1 ] ) = 2", 5},
	} {
		wantMisfit(t, inLines(c.src), c.line)
		wantMisfit(t, "\n\n"+inLines(c.src)+"\n\n-- c\n", c.line+2)
		wantMisfit(t, strings.Join(strings.Fields(c.src), " "), 1)
		wantMisfit(t, "local a = 1; "+strings.Join(strings.Fields(c.src), " "), 1)
	}
	wantMisfit(t, "x = 1\n~", 2)
	wantMisfit(t, "x = \n\n\"", 3)
	wantMisfit(t, "= 1\n\n!", 3)
	wantMisfit(t, strings.Repeat("f() ", 1001), 1)
}

// nested makes trees down to a depth below the program, by one way down over and over.
var waysDown = []struct {
	name  string
	steps int
	wrap  func(n impl.Node) impl.Node
}{
	{"un", 1, func(n impl.Node) impl.Node { return tree(impl.NkUn, "-", n) }},
	{"left", 1, func(n impl.Node) impl.Node { return tree(impl.NkBin, "+", n, leafName) }},
	{"right", 1, func(n impl.Node) impl.Node { return tree(impl.NkBin, "..", leafName, n) }},
	{"indexed", 1, func(n impl.Node) impl.Node { return tree(impl.NkIndex, "", n, leafName) }},
	{"key", 1, func(n impl.Node) impl.Node { return tree(impl.NkIndex, "", leafName, n) }},
	{"called", 1, func(n impl.Node) impl.Node { return tree(impl.NkCall, "", n) }},
	{"argument", 1, func(n impl.Node) impl.Node { return tree(impl.NkCall, "", leafName, leafName, n) }},
	{"returned", 3, func(n impl.Node) impl.Node { return inFunction(tree(impl.NkReturn, "", n)) }},
	{"local", 3, func(n impl.Node) impl.Node { return inFunction(tree(impl.NkLocal, "b", n)) }},
	{"set", 3, func(n impl.Node) impl.Node { return inFunction(tree(impl.NkSet, "", leafName, n)) }},
	{"do", 4, func(n impl.Node) impl.Node {
		return inFunction(tree(impl.NkDo, "", tree(impl.NkCall, "", leafName, n)))
	}},
	{"if", 3, func(n impl.Node) impl.Node { return inFunction(tree(impl.NkIf, "", n, tree(impl.NkBlock, ""))) }},
	{"while", 3, func(n impl.Node) impl.Node {
		return inFunction(tree(impl.NkWhile, "", n, tree(impl.NkBlock, "")))
	}},
	{"then", 5, func(n impl.Node) impl.Node {
		return inFunction(tree(impl.NkIf, "", leafName, tree(impl.NkBlock, "", tree(impl.NkReturn, "", n))))
	}},
	{"else", 5, func(n impl.Node) impl.Node {
		return inFunction(tree(impl.NkIf, "", leafName, tree(impl.NkBlock, ""), tree(impl.NkBlock, "", tree(impl.NkReturn, "", n))))
	}},
	{"rec", 6, func(n impl.Node) impl.Node {
		return inFunction(tree(impl.NkRec, "f", inFunction(tree(impl.NkReturn, "", n))))
	}},
}

var leafName = impl.Node{Kind: impl.NkName, Text: "a"}

func tree(kind int, text string, kids ...impl.Node) impl.Node {
	return impl.Node{Kind: kind, Text: text, Kids: kids}
}

func inFunction(statement impl.Node) impl.Node {
	return tree(impl.NkFunc, "", tree(impl.NkBlock, "", statement))
}

func TestDepth(t *testing.T) {
	for _, way := range waysDown {
		for depth := 26; depth <= 34; depth++ {
			n := leafName
			below := 2
			for ; below+way.steps <= depth; below += way.steps {
				n = way.wrap(n)
			}
			for ; below < depth; below++ {
				n = tree(impl.NkUn, "#", n)
			}
			whole := tree(impl.NkBlock, "", tree(impl.NkBreak, ""), tree(impl.NkReturn, "", n))
			if depthOf(whole) != depth {
				t.Fatal(way.name, depth, depthOf(whole))
			}
			src := strings.Join(impl.Plain(whole), "\n")
			if depth <= impl.MaxDepth {
				wantTree(t, src, outline(whole, false))
			} else {
				wantMisfit(t, src, 1)
				wantMisfit(t, "\n\n"+src, 1)
				// A word that does not fit, or lacks, is named ahead of a node too deep.
				wantMisfit(t, "\n\n"+src+"\n)", 4+strings.Count(src, "\n"))
				wantMisfit(t, "\n\n"+src+"\nx\n\n", 4+strings.Count(src, "\n"))
				wantMisfit(t, "\n\nx y\n"+src, 3)
			}
		}
	}
	statements := strings.Repeat("if a then ", 14)
	ends := strings.Repeat(" end", 14)
	wantTree(t, statements+"x = 1"+ends, "block("+strings.Repeat("if(name:a block(", 14)+"set(name:x int=1)"+strings.Repeat("))", 14)+")")
	wantMisfit(t, statements+"f()"+ends, 1)
	wantMisfit(t, statements+"x = {}.y"+ends, 1)
}

func repeated(list []impl.Token, count int) []impl.Token {
	return slices.Repeat(list, count)
}

// Round brackets are no nodes: they may nest as often as there is room, and no call stack bounds that.
func TestManyBrackets(t *testing.T) {
	defer debug.SetMaxStack(debug.SetMaxStack(8 << 20))
	wantTree(t, "x = "+strings.Repeat("(", 1990)+"a"+strings.Repeat(")", 1990), "block(set(name:x name:a))")
	wantTree(t, strings.Repeat("(", 1990)+"a"+strings.Repeat(")", 1990)+" = 1", "block(set(name:a int=1))")
	wantMisfit(t, "x = "+strings.Repeat("(", 1990)+"a"+strings.Repeat(")", 1989), 1)
	count := 100000
	opened, closed := repeated([]impl.Token{sign("(", 2)}, count), repeated([]impl.Token{sign(")", 3)}, count)
	begin := []impl.Token{word("return", 1)}
	for _, c := range []struct {
		list []impl.Token
		tree string
		line int
	}{
		{slices.Concat(begin, opened, []impl.Token{name("a", 2)}, closed), "block@1(return@1(name:a@2))", 0},
		{slices.Concat(begin, opened, []impl.Token{name("a", 4)}, closed[1:]), "block@0", 3},
		{slices.Concat(begin, opened, closed), "block@0", 3},
		{slices.Concat(begin, opened, []impl.Token{name("a", 4)}), "block@0", 4},
		{slices.Concat(begin, repeated([]impl.Token{sign("-", 5)}, count), []impl.Token{number(1, 6)}), "block@0", 1},
		{slices.Concat(begin, repeated([]impl.Token{word("not", 5)}, count)), "block@0", 5},
		{slices.Concat(begin, repeated([]impl.Token{name("a", 5), sign("..", 7)}, count), []impl.Token{name("b", 6)}), "block@0", 1},
		{slices.Concat(begin, repeated([]impl.Token{name("a", 5), sign("+", 7)}, count), []impl.Token{sign(")", 6)}), "block@0", 6},
		{slices.Concat(begin, []impl.Token{name("a", 5)}, repeated([]impl.Token{sign("(", 7), sign(")", 7)}, count)), "block@0", 1},
		{slices.Concat(begin, repeated([]impl.Token{name("a", 8), sign("[", 7)}, count)), "block@0", 7},
		{repeated([]impl.Token{word("if", 8), name("a", 8), word("then", 9)}, count), "block@0", 9},
		{repeated([]impl.Token{word("local", 8), word("function", 8), name("a", 8), sign("(", 9), sign(")", 9)}, count), "block@0", 9},
	} {
		n, line := impl.Parse(c.list)
		if line != c.line || c.line > 0 && outline(n, true) != "block@0" || c.line == 0 && outline(n, true) != c.tree {
			t.Errorf("Parse of %.60s ..: %.80s %d, not line %d", fmt.Sprint(c.list[:3]), fmt.Sprint(n), line, c.line)
		}
	}
	many, line := impl.Parse(repeated([]impl.Token{word("break", 4), sign(";", 4)}, count))
	if line != 0 || len(many.Kids) != count || impl.Size(many) != count+1 || len(impl.Plain(many)) != 2*count {
		t.Error("many statements", line, len(many.Kids))
	}
}

func TestWordsThatNoTextGives(t *testing.T) {
	for _, c := range []struct {
		list []impl.Token
		tree string
		line int
	}{
		{nil, "block@0", 0},
		{[]impl.Token{}, "block@0", 0},
		{[]impl.Token{{}}, "block@0", 0},
		{[]impl.Token{{}, sign("=", -5), number(-7, 9)}, "block@0(set@0(name@0 int=-7@9))", 0},
		{[]impl.Token{name("if", 3), sign("=", 2), name("end", 1)}, "block@3(set@3(name:if@3 name:end@1))", 0},
		{[]impl.Token{name("(", 3), sign("(", 2), sign(")", 1)}, "block@3(do@3(call@3(name:(@3)))", 0},
		{[]impl.Token{word("if", 3), word("a", 2)}, "block@0", 2},
		{[]impl.Token{word("break", -3), word("foo", -4)}, "block@0", -4},
		{[]impl.Token{word("break", 3), sign("break", 4)}, "block@0", 4},
		{[]impl.Token{word("break", 3), word(";", 4)}, "block@0", 4},
		{[]impl.Token{word("break", 3), text("break", 4)}, "block@0", 4},
		{[]impl.Token{word("break", 3), sign("", 4)}, "block@0", 4},
		{[]impl.Token{word("break", 3), word("", 4)}, "block@0", 4},
		{[]impl.Token{word("break", 3), {Kind: 5, Text: "a", Line: 6}}, "block@0", 6},
		{[]impl.Token{word("break", 3), {Kind: -1, Text: "a", Line: 6}}, "block@0", 6},
		{[]impl.Token{word("return", 3), {Kind: 99, Text: "(", Line: 6}}, "block@0", 6},
		{[]impl.Token{word("return", 3), {Kind: impl.TokNumber, Text: "x", N: -9223372036854775808, Line: 6}}, "block@3(return@3(int=-9223372036854775808@6))", 0},
		{[]impl.Token{word("return", 3), {Kind: impl.TokText, Text: "x", N: 4, Line: 6}}, "block@3(return@3(text:x@6))", 0},
		{[]impl.Token{{Kind: impl.TokWord, Text: "return", N: 4, Line: 3}, {Kind: impl.TokName, Text: "x", N: 4, Line: 6}}, "block@3(return@3(name:x@6))", 0},
		{[]impl.Token{word("local", 0)}, "block@0", 0},
		{[]impl.Token{word("local", -1), sign("=", 0)}, "block@0", 0},
		{[]impl.Token{word("return", 1), text("(", 2), text("a", 3), text(")", 4)}, "block@0", 3},
		{[]impl.Token{word("return", 1), name("a", 9), sign("+", 5), name("b", -2)}, "block@1(return@1(bin:+@9(name:a@9 name:b@-2)))", 0},
	} {
		n, line := impl.Parse(c.list)
		want := c.tree
		if line != c.line || outline(n, true) != want {
			t.Errorf("Parse of %v: %s %d, not %s %d", c.list, outline(n, true), line, want, c.line)
		}
	}
}

func wantPlain(t *testing.T, n impl.Node, want string) {
	t.Helper()
	got := impl.Plain(n)
	if strings.Join(got, " ") != want || impl.Show(n) != want {
		t.Errorf("Plain of %s: %q and %q, not %q", outline(n, false), got, impl.Show(n), want)
	}
}

func TestPlain(t *testing.T) {
	a, one := leafName, impl.Node{Kind: impl.NkInt, N: 1}
	wantPlain(t, a, "a")
	wantPlain(t, one, "1")
	wantPlain(t, impl.Node{Kind: impl.NkInt, N: -9223372036854775808}, "-9223372036854775808")
	wantPlain(t, tree(impl.NkText, "a\n\"\\ b"), `"a\n\"\\ b"`)
	wantPlain(t, tree(impl.NkBin, "+", a, one), "( a + 1 )")
	wantPlain(t, tree(impl.NkUn, "not", a), "( not a )")
	wantPlain(t, tree(impl.NkCall, "", tree(impl.NkBin, "+", a, one), tree(impl.NkUn, "-", one)), "( a + 1 ) ( ( - 1 ) )")
	wantPlain(t, tree(impl.NkIndex, "", tree(impl.NkUn, "-", a), tree(impl.NkBin, "or", a, a)), "( - a ) [ ( a or a ) ]")
	for _, n := range []impl.Node{{}, tree(impl.NkNil, ""), tree(impl.NkTrue, ""), tree(impl.NkFalse, ""), one, tree(impl.NkText, "t"), tree(impl.NkTable, ""), inFunction(tree(impl.NkBreak, ""))} {
		inner := impl.Show(n)
		if inner != "" {
			inner += " "
		}
		wantPlain(t, tree(impl.NkCall, "", n), "( "+inner+") ( )")
		wantPlain(t, tree(impl.NkIndex, "", n, a), "( "+inner+") [ a ]")
	}
	for _, n := range []impl.Node{a, tree(impl.NkIndex, "", a, one), tree(impl.NkCall, "", a, one)} {
		wantPlain(t, tree(impl.NkCall, "", n, a, a), impl.Show(n)+" ( a , a )")
		wantPlain(t, tree(impl.NkIndex, "", n, a), impl.Show(n)+" [ a ]")
	}
	for _, c := range []struct {
		n    impl.Node
		want string
	}{
		{tree(impl.NkBreak, ""), "break ;"},
		{tree(impl.NkReturn, ""), "return ;"},
		{tree(impl.NkReturn, "", a), "return a ;"},
		{tree(impl.NkLocal, "x"), "local x ;"},
		{tree(impl.NkLocal, "x", one), "local x = 1 ;"},
		{tree(impl.NkRec, "f", impl.Node{Kind: impl.NkFunc, Names: []string{"p", "q"}, Kids: []impl.Node{tree(impl.NkBlock, "", tree(impl.NkBreak, ""))}}), "local function f ( p , q ) break ; end ;"},
		{tree(impl.NkIf, "", a, tree(impl.NkBlock, "")), "if a then end ;"},
		{tree(impl.NkIf, "", a, tree(impl.NkBlock, ""), tree(impl.NkBlock, "", tree(impl.NkBreak, ""))), "if a then else break ; end ;"},
		{tree(impl.NkWhile, "", a, tree(impl.NkBlock, "")), "while a do end ;"},
		{tree(impl.NkSet, "", tree(impl.NkIndex, "", a, tree(impl.NkText, "k")), one), `a [ "k" ] = 1 ;`},
		{tree(impl.NkDo, "", tree(impl.NkCall, "", a)), "a ( ) ;"},
	} {
		wantPlain(t, c.n, c.want)
		wantPlain(t, tree(impl.NkBlock, "", c.n, c.n), c.want+" "+c.want)
	}
	if impl.Show(impl.Node{}) != "" || len(impl.Plain(impl.Node{})) != 0 {
		t.Error("an empty block")
	}
}

func TestPlainOfTreesThatNoProgramGives(t *testing.T) {
	a, one, none := leafName, impl.Node{Kind: impl.NkInt, N: 1}, impl.Node{Kind: 99}
	least := map[int]int{impl.NkRec: 1, impl.NkIf: 2, impl.NkWhile: 2, impl.NkSet: 2, impl.NkDo: 1, impl.NkFunc: 1, impl.NkIndex: 2, impl.NkCall: 1, impl.NkBin: 2, impl.NkUn: 1}
	for kind := range 21 {
		for count := range 5 {
			n := tree(kind, "t")
			for range count {
				n.Kids = append(n.Kids, tree(impl.NkName, "k"))
			}
			if words := impl.Plain(n); count < least[kind] && len(words) != 0 || count >= least[kind] && kind != impl.NkBlock && len(words) == 0 {
				t.Error("Plain of", outline(n, false), words)
			}
			if impl.Size(n) != 1+count || !impl.SameTree(n, n) {
				t.Error("Size of", outline(n, false), impl.Size(n))
			}
		}
	}
	for _, kind := range []int{-1, 21, 99, -9223372036854775808, 9223372036854775807} {
		n := impl.Node{Kind: kind, Text: "a", N: 1, Names: []string{"b"}, Kids: []impl.Node{a, a, a}}
		wantPlain(t, n, "")
		if impl.Size(n) != 4 || !impl.SameTree(n, n) || impl.SameTree(n, none) {
			t.Error("of no kind", kind, impl.Size(n))
		}
	}
	nine := []impl.Node{a, a, a, a, a, a, a, a, a, a}
	for _, c := range []struct {
		n    impl.Node
		want string
	}{
		{tree(impl.NkBreak, "", one), "break ;"},
		{tree(impl.NkReturn, "", a, one), "return a ;"},
		{tree(impl.NkReturn, "", none, one), "return ;"},
		{tree(impl.NkLocal, "x", one, a), "local x = 1 ;"},
		{tree(impl.NkLocal, "x", none), "local x = ;"},
		{tree(impl.NkIf, "", a, none), "if a then end ;"},
		{tree(impl.NkIf, "", none, none, none, one), "if then else end ;"},
		{tree(impl.NkWhile, "", tree(impl.NkUn, "-"), a, one), "while do a end ;"},
		{tree(impl.NkSet, "", one, none, a), "1 = ;"},
		{tree(impl.NkDo, "", one, a), "1 ;"},
		{tree(impl.NkDo, "", none), ";"},
		{tree(impl.NkNil, "", one), "nil"},
		{tree(impl.NkName, "", one), ""},
		{tree(impl.NkTable, "", one), "{ }"},
		{tree(impl.NkInt, "x"), "0"},
		{tree(impl.NkBin, "+", a, none, one), "( a + )"},
		{tree(impl.NkBin, "?", none, none), "( ? )"},
		{tree(impl.NkUn, "-", none, a), "( - )"},
		{tree(impl.NkIndex, "", a, none, one), "a [ ]"},
		{tree(impl.NkIndex, "", none, one), "( ) [ 1 ]"},
		{tree(impl.NkCall, "", none, none, none), "( ) ( , )"},
		{tree(impl.NkCall, "", tree(impl.NkReturn, "")), "( return ; ) ( )"},
		{tree(impl.NkCall, "", nine...), "a ( a , a , a , a , a , a , a , a , a )"},
		{impl.Node{Kind: impl.NkFunc, Names: someNames(9), Kids: []impl.Node{one, a}}, "function ( " + strings.Join(someNames(9), " , ") + " ) 1 end"},
		{impl.Node{Kind: impl.NkFunc, Names: []string{"", "end"}, Kids: []impl.Node{none}}, "function (  , end ) end"},
		{impl.Node{Kind: impl.NkFunc, Names: []string{"a"}}, ""},
		{tree(impl.NkRec, "f", impl.Node{Kind: impl.NkFunc, Names: []string{"a"}}), "local function f ;"},
		{tree(impl.NkRec, "f", none), "local function f ;"},
		{tree(impl.NkBlock, "", one, none, tree(impl.NkBlock, "", tree(impl.NkBreak, "")), tree(impl.NkSet, "", a)), "1 break ;"},
		{tree(impl.NkBin, "+", tree(impl.NkBreak, ""), tree(impl.NkBlock, "", a, one)), "( break ; + a 1 )"},
	} {
		wantPlain(t, c.n, c.want)
	}
	if words := impl.Plain(tree(impl.NkName, "")); len(words) != 1 || words[0] != "" {
		t.Error("a name without bytes", words)
	}
}

// down puts a leaf so many levels below the node that is answered.
func down(levels int, leaf impl.Node) impl.Node {
	for range levels {
		leaf = tree(impl.NkUn, "-", leaf)
	}
	return leaf
}

func TestSixtyBelow(t *testing.T) {
	a, b := leafName, tree(impl.NkName, "b")
	for _, levels := range []int{0, 1, 30, 31, 59, 60} {
		n := down(levels, a)
		wantPlain(t, n, strings.Repeat("( - ", levels)+"a"+strings.Repeat(" )", levels))
		if impl.Size(n) != levels+1 || !impl.SameTree(n, down(levels, a)) || impl.SameTree(n, down(levels, b)) || impl.SameTree(n, down(levels+1, a)) {
			t.Error("levels", levels, impl.Size(n))
		}
	}
	for _, levels := range []int{61, 62, 100, 100000} {
		n := down(levels, a)
		wantPlain(t, n, strings.TrimSpace(strings.Repeat("( - ", 61)+strings.Repeat(") ", 61)))
		if impl.Size(n) != 61 || !impl.SameTree(n, down(levels, b)) || !impl.SameTree(n, down(levels+1, a)) || impl.SameTree(n, down(60, a)) {
			t.Error("levels", levels, impl.Size(n))
		}
	}
	// Of what stands at the last level its own words are told, and it is held against the other's all but its kids.
	last := tree(impl.NkCall, "", a, a)
	wantPlain(t, down(60, last), strings.Repeat("( - ", 60)+"( )"+strings.Repeat(" )", 60))
	wantPlain(t, down(59, last), strings.Repeat("( - ", 59)+"a ( a )"+strings.Repeat(" )", 59))
	if impl.Size(down(60, last)) != 61 || impl.Size(down(59, last)) != 62 {
		t.Error("Size", impl.Size(down(60, last)), impl.Size(down(59, last)))
	}
	if !impl.SameTree(down(60, last), down(60, tree(impl.NkCall, "", b))) || impl.SameTree(down(59, last), down(59, tree(impl.NkCall, "", a))) || impl.SameTree(down(60, last), down(60, tree(impl.NkCall, "x"))) {
		t.Error("SameTree at the last level")
	}
	rec := tree(impl.NkRec, "f", inFunction(tree(impl.NkBreak, "")))
	wantPlain(t, down(60, rec), strings.Repeat("( - ", 60)+"local function f ;"+strings.Repeat(" )", 60))
	wantPlain(t, down(59, rec), strings.Repeat("( - ", 59)+"local function f ( ) end ;"+strings.Repeat(" )", 59))
	wantPlain(t, down(58, rec), strings.Repeat("( - ", 58)+"local function f ( ) end ;"+strings.Repeat(" )", 58))
	wantPlain(t, down(59, tree(impl.NkRec, "f", a)), strings.Repeat("( - ", 59)+"local function f a ;"+strings.Repeat(" )", 59))
	wantPlain(t, down(60, tree(impl.NkRec, "f", a)), strings.Repeat("( - ", 60)+"local function f ;"+strings.Repeat(" )", 60))
	wantPlain(t, down(57, rec), strings.Repeat("( - ", 57)+"local function f ( ) break ; end ;"+strings.Repeat(" )", 57))
	// A list that holds itself goes down without an end.
	ring := []impl.Node{{Kind: impl.NkUn, Text: "#"}}
	ring[0].Kids = ring
	if impl.Size(ring[0]) != 61 || len(impl.Plain(ring[0])) != 183 || !impl.SameTree(ring[0], ring[0]) {
		t.Error("a ring", impl.Size(ring[0]), len(impl.Plain(ring[0])))
	}
}

func TestSameTreeAndSize(t *testing.T) {
	base := func() impl.Node {
		return impl.Node{Kind: impl.NkFunc, Text: "t", N: 3, Names: []string{"a", "b"}, Line: 5, Kids: []impl.Node{tree(impl.NkUn, "-", leafName), leafName}}
	}
	if !impl.SameTree(base(), base()) || impl.Size(base()) != 4 {
		t.Error("alike", impl.Size(base()))
	}
	for i, change := range []func(n *impl.Node){
		func(n *impl.Node) { n.Kind = impl.NkBin },
		func(n *impl.Node) { n.Text = "T" },
		func(n *impl.Node) { n.Text = "" },
		func(n *impl.Node) { n.N = -3 },
		func(n *impl.Node) { n.Names = nil },
		func(n *impl.Node) { n.Names = []string{"b", "a"} },
		func(n *impl.Node) { n.Names = []string{"a"} },
		func(n *impl.Node) { n.Names = []string{"a", "b", ""} },
		func(n *impl.Node) { n.Kids = n.Kids[:1] },
		func(n *impl.Node) { n.Kids = n.Kids[1:] },
		func(n *impl.Node) { n.Kids = append(n.Kids, impl.Node{}) },
		func(n *impl.Node) { n.Kids[0], n.Kids[1] = n.Kids[1], n.Kids[0] },
		func(n *impl.Node) { n.Kids[1].Text = "z" },
		func(n *impl.Node) { n.Kids[0].Kids[0].N = 1 },
		func(n *impl.Node) { n.Kids[0].Kids = nil },
	} {
		other := base()
		change(&other)
		if impl.SameTree(base(), other) || impl.SameTree(other, base()) || !impl.SameTree(other, other) {
			t.Error("change", i, outline(other, true))
		}
	}
	other := base()
	other.Line, other.Kids[0].Line, other.Kids[0].Kids[0].Line = 6, 7, 8
	if !impl.SameTree(base(), other) || !impl.SameTree(impl.Node{}, impl.Node{Names: []string{}, Kids: []impl.Node{}, Line: 9}) {
		t.Error("lines, and lists that are nil or empty, make no other tree")
	}
	for _, c := range []struct {
		src  string
		size int
	}{{"", 1}, {"break", 2}, {"local x", 2}, {"local x = 1", 3}, {"x.y = f(1, 2)", 9}, {"if a then else end", 5}, {"local function f(a, b) end", 4}, {"f() g()", 7}} {
		n, line := impl.Read(c.src)
		if line != 0 || impl.Size(n) != c.size || countNodes(n) != c.size {
			t.Error("Size of", c.src, impl.Size(n), line)
		}
	}
}

func countNodes(n impl.Node) int {
	count := 1
	for _, kid := range n.Kids {
		count += countNodes(kid)
	}
	return count
}
