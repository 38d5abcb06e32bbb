package tests

import (
	"slices"
	"strconv"
	"strings"
	"testing"

	"loop.example/g00258/impl"
)

// wantCode asks for the protos of a source, as protoWords tells them.
func wantCode(t *testing.T, src string, protos ...string) {
	t.Helper()
	n, line := impl.Read(src)
	if line != 0 {
		t.Fatalf("Read of %.200q: %d", src, line)
	}
	list := wantRight(t, n)
	if got, want := codeWords(list), strings.Join(protos, "\n"); got != want {
		t.Errorf("%.300s\n%s\nnot\n%s", src, got, want)
	}
	if !impl.CodeOk(list) {
		t.Errorf("%.300s\nis not right", src)
	}
	wantShownAgain(t, n)
	wantSteps(t, n, 500)
}

// wantCodeLines puts each word in a line of its own, and asks for the lines of the instructions, proto by proto.
func wantCodeLines(t *testing.T, src string, protos ...string) {
	t.Helper()
	n, line := impl.Read(inLines(src))
	if line != 0 {
		t.Fatalf("Read of %.200q: %d", src, line)
	}
	if got, want := codeLines(wantRight(t, n)), strings.Join(protos, "\n"); got != want {
		t.Errorf("%.300s\nlines\n%s\nnot\n%s", src, got, want)
	}
}

func TestConstantsOfCode(t *testing.T) {
	for want, got := range []int{
		impl.OpPush, impl.OpLocal, impl.OpUp, impl.OpSetLocal, impl.OpSetUp, impl.OpNew, impl.OpIndex, impl.OpPut, impl.OpTable, impl.OpFunc,
		impl.OpCall, impl.OpBin, impl.OpUn, impl.OpJump, impl.OpFalse, impl.OpAnd, impl.OpOr, impl.OpPop, impl.OpReturn, impl.OpRaise,
	} {
		if got != want {
			t.Error("constant", want, got)
		}
	}
}

func TestCodeOfExpressions(t *testing.T) {
	for _, c := range []struct{ exp, code string }{
		{"nil", "push nil"}, {"true", "push true"}, {"false", "push false"}, {"0", "push 0"}, {"7", "push 7"}, {"999999999999", "push 999999999999"},
		{`""`, `push ""`}, {`"a\n\"\\b"`, `push "a\n\"\\b"`}, {"{}", "table"},
		{"y", "raise name"}, {"print", "push host:0"}, {"error", "push host:1"}, {"try", "push host:2"},
		{"y[1]", "raise name; push 1; index"}, {"({}).x", `table; push "x"; index`}, {`({})[1][2]`, "table; push 1; index; push 2; index"}, {"({})[1 + 2]", "table; push 1; push 2; bin +; index"},
		{"print()", "push host:0; call 0"}, {"print(1)", "push host:0; push 1; call 1"}, {"print(1, 2, nil)", "push host:0; push 1; push 2; push nil; call 3"},
		{"print(1, 2, 3, 4, 5, 6, 7, 8)", "push host:0; push 1; push 2; push 3; push 4; push 5; push 6; push 7; push 8; call 8"},
		{"print(print(1))(2)", "push host:0; push host:0; push 1; call 1; call 1; push 2; call 1"},
		{"-1", "push 1; un -"}, {"not nil", "push nil; un not"}, {"#{}", "table; un #"}, {"- - 1", "push 1; un -; un -"}, {"-(1 + 2)", "push 1; push 2; bin +; un -"},
		{"1 + 2 * 3", "push 1; push 2; push 3; bin *; bin +"}, {"1 .. 2 .. 3", "push 1; push 2; push 3; bin ..; bin .."}, {"1 - 2 - 3", "push 1; push 2; bin -; push 3; bin -"},
	} {
		// The return stands behind it, and what is told of nothing behind that.
		wantCode(t, "return "+c.exp, "0/0: "+c.code+"; return; push nil; return")
	}
	for _, op := range slices.Concat(arithSigns, compareSigns, []string{".."}) {
		wantCode(t, "return 1 "+op+" nil", "0/0: push 1; push nil; bin "+op+"; return; push nil; return")
	}
}

func TestCodeOfAndAndOr(t *testing.T) {
	for _, c := range []struct{ exp, code string }{
		{"1 and 2", "push 1; and 3; push 2"},
		{"1 or 2", "push 1; or 3; push 2"},
		{"1 and 2 and 3", "push 1; and 3; push 2; and 5; push 3"},
		{"1 and (2 and 3)", "push 1; and 5; push 2; and 5; push 3"},
		{"1 or 2 and 3", "push 1; or 5; push 2; and 5; push 3"},
		{"(1 or 2) and 3", "push 1; or 3; push 2; and 5; push 3"},
		{"1 and 2 or 3", "push 1; and 3; push 2; or 5; push 3"},
		{"not (1 and -2) or 3 == 4", "push 1; and 4; push 2; un -; un not; or 9; push 3; push 4; bin =="},
		{"print(1 and 2, nil or y)", "push host:0; push 1; and 4; push 2; push nil; or 7; raise name; call 2"},
		{"(1 or 2) + (3 and 4)", "push 1; or 3; push 2; push 3; and 6; push 4; bin +"},
	} {
		wantCode(t, "return "+c.exp, "0/0: "+c.code+"; return; push nil; return")
	}
}

func TestCodeOfStatements(t *testing.T) {
	for _, c := range []struct{ src, code string }{
		{"", "0/0: push nil; return"},
		{"-- nothing", "0/0: push nil; return"},
		{"return", "0/0: push nil; return; push nil; return"},
		{"return 1", "0/0: push 1; return; push nil; return"},
		{"return 1; return; break", "0/0: push 1; return; push nil; return; raise break; push nil; return"},
		{"print(1)", "0/0: push host:0; push 1; call 1; pop; push nil; return"},
		{"print(1) print()", "0/0: push host:0; push 1; call 1; pop; push host:0; call 0; pop; push nil; return"},
		{"local x", "0/1: push nil; new 0; push nil; return | x 0 2 2"},
		{"local x = 5", "0/1: push 5; new 0; push nil; return | x 0 2 2"},
		{"local x = 1 + 2 return x", "0/1: push 1; push 2; bin +; new 0; local 0; return; push nil; return | x 0 4 6"},
		{"local x x = 1", "0/1: push nil; new 0; push 1; setlocal 0; push nil; return | x 0 2 4"},
		{"local x x = x", "0/1: push nil; new 0; local 0; setlocal 0; push nil; return | x 0 2 4"},
		{"local x (x) = 1", "0/1: push nil; new 0; push 1; setlocal 0; push nil; return | x 0 2 4"},
		{"y = 1", "0/0: push 1; raise name; push nil; return"},
		{"y = y", "0/0: raise name; raise name; push nil; return"},
		{"y = 1 + 2", "0/0: push 1; push 2; bin +; raise name; push nil; return"},
		{"y.x = 1", `0/0: raise name; push "x"; push 1; put; push nil; return`},
		{"({})[1 + 2] = 3 * 4", "0/0: table; push 1; push 2; bin +; push 3; push 4; bin *; put; push nil; return"},
		{"({}).a.b = nil", `0/0: table; push "a"; index; push "b"; push nil; put; push nil; return`},
		{"local t t.x[t] = t", `0/1: push nil; new 0; local 0; push "x"; index; local 0; local 0; put; push nil; return | t 0 2 8`},
		{"print().x = 1", `0/0: push host:0; call 0; push "x"; push 1; put; push nil; return`},
	} {
		wantCode(t, c.src, c.code)
	}
}

func TestCodeOfChoices(t *testing.T) {
	for _, c := range []struct{ src, code string }{
		{"if true then end", "0/0: push true; jumpfalse 2; push nil; return"},
		{"if true then else end", "0/0: push true; jumpfalse 3; jump 3; push nil; return"},
		{"if true then return end", "0/0: push true; jumpfalse 4; push nil; return; push nil; return"},
		{"if true then return 1 else end", "0/0: push true; jumpfalse 5; push 1; return; jump 5; push nil; return"},
		{"if true then else return 2 end", "0/0: push true; jumpfalse 3; jump 5; push 2; return; push nil; return"},
		{"if true then return 1 else return 2 end return 3", "0/0: push true; jumpfalse 5; push 1; return; jump 7; push 2; return; push 3; return; push nil; return"},
		{"if true then local a else local b end", "0/1: push true; jumpfalse 5; push nil; new 0; jump 7; push nil; new 0; push nil; return | a 0 4 4, b 0 7 7"},
		{"if 1 and 2 then end", "0/0: push 1; and 3; push 2; jumpfalse 4; push nil; return"},
		{"if 1 then if 2 then else end else if 3 then end end", "0/0: push 1; jumpfalse 6; push 2; jumpfalse 5; jump 5; jump 8; push 3; jumpfalse 8; push nil; return"},
		{"if 1 then if 2 then print() end end", "0/0: push 1; jumpfalse 7; push 2; jumpfalse 7; push host:0; call 0; pop; push nil; return"},
	} {
		wantCode(t, c.src, c.code)
	}
}

func TestCodeOfLoops(t *testing.T) {
	for _, c := range []struct{ src, code string }{
		{"while false do end", "0/0: push false; jumpfalse 3; jump 0; push nil; return"},
		{"print() while 1 and nil do print() end", "0/0: push host:0; call 0; pop; push 1; and 6; push nil; jumpfalse 11; push host:0; call 0; pop; jump 3; push nil; return"},
		{"while true do break end", "0/0: push true; jumpfalse 4; jump 4; jump 0; push nil; return"},
		{"while true do break break return end", "0/0: push true; jumpfalse 7; jump 7; jump 7; push nil; return; jump 0; push nil; return"},
		{"while true do if 1 then break end end", "0/0: push true; jumpfalse 6; push 1; jumpfalse 5; jump 6; jump 0; push nil; return"},
		{"while true do if 1 then else break end print() end return 2", "0/0: push true; jumpfalse 10; push 1; jumpfalse 5; jump 6; jump 10; push host:0; call 0; pop; jump 0; push 2; return; push nil; return"},
		{"while true do while 1 do break end break end", "0/0: push true; jumpfalse 8; push 1; jumpfalse 6; jump 6; jump 2; jump 8; jump 0; push nil; return"},
		{"while true do break while 1 do end break end", "0/0: push true; jumpfalse 8; jump 8; push 1; jumpfalse 6; jump 3; jump 8; jump 0; push nil; return"},
		{"while true do while 1 do if 2 then break else break end end if 3 then break end end break", "0/0: push true; jumpfalse 14; push 1; jumpfalse 10; push 2; jumpfalse 8; jump 10; jump 9; jump 10; jump 2; push 3; jumpfalse 13; jump 14; jump 0; raise break; push nil; return"},
		{"while nil do local a while a do local b end local c end", "0/2: push nil; jumpfalse 12; push nil; new 0; local 0; jumpfalse 9; push nil; new 1; jump 4; push nil; new 1; jump 0; push nil; return | a 0 4 11, b 1 8 8, c 1 11 11"},
		{"break", "0/0: raise break; push nil; return"},
		{"if true then break end", "0/0: push true; jumpfalse 3; raise break; push nil; return"},
		{"break while nil do end break", "0/0: raise break; push nil; jumpfalse 4; jump 1; raise break; push nil; return"},
	} {
		wantCode(t, c.src, c.code)
	}
}

func TestCodeOfFunctions(t *testing.T) {
	const none = "0/0: push nil; return"
	wantCode(t, "local function f() end", "0/1: push nil; new 0; func 1; setlocal 0; push nil; return | f 0 2 4", none)
	wantCode(t, "local f = function() end", "0/1: func 1; new 0; push nil; return | f 0 2 2", none)
	wantCode(t, "local function f() f() end", "0/1: push nil; new 0; func 1; setlocal 0; push nil; return | f 0 2 4", "0/0 l0: up 0; call 0; pop; push nil; return")
	wantCode(t, "local f = function() f() end", "0/1: func 1; new 0; push nil; return | f 0 2 2", "0/0: raise name; call 0; pop; push nil; return")
	wantCode(t, "local x local x = function() return x end", "0/2: push nil; new 0; func 1; new 1; push nil; return | x 0 2 4, x 1 4 4", "0/0 l0: up 0; return; push nil; return")
	wantCode(t, "local x local function x() return x end", "0/2: push nil; new 0; push nil; new 1; func 1; setlocal 1; push nil; return | x 0 2 6, x 1 4 6", "0/0 l1: up 0; return; push nil; return")
	wantCode(t, "return function(a, b) return b end", "0/0: func 1; return; push nil; return", "2/2: local 1; return; push nil; return | a 0 0 2, b 1 0 2")
	wantCode(t, "return function(a) end", "0/0: func 1; return; push nil; return", "1/1: push nil; return | a 0 0 0")
	wantCode(t, "local function f(f) f = f end", "0/1: push nil; new 0; func 1; setlocal 0; push nil; return | f 0 2 4", "1/1: local 0; setlocal 0; push nil; return | f 0 0 2")
	wantCode(t, "return (function(a) print(a) end)(1)", "0/0: func 1; push 1; call 1; return; push nil; return", "1/1: push host:0; local 0; call 1; pop; push nil; return | a 0 0 4")
	wantCode(t, "while true do local f = function() break end break end",
		"0/1: push true; jumpfalse 6; func 1; new 0; jump 6; jump 0; push nil; return | f 0 4 5", "0/0: raise break; push nil; return")
	wantCode(t, "while (function() while nil do break end break end)() do local function f() if 1 then break end end end",
		"0/1: func 1; call 0; jumpfalse 8; push nil; new 0; func 2; setlocal 0; jump 0; push nil; return | f 0 5 7",
		"0/0: push nil; jumpfalse 4; jump 4; jump 0; raise break; push nil; return", "0/0: push 1; jumpfalse 3; raise break; push nil; return")
}

func TestNumbersOfFunctions(t *testing.T) {
	const none = "0/0: push nil; return"
	made := func(number int) string { return "0/0: func " + strconv.Itoa(number) + "; return; push nil; return" }
	wantCode(t, "return function() return function() return function() end end end", made(1), made(2), made(3), none)
	wantCode(t, "local f = function() return function() end end local g = function() return function() return function() end end end return g(function() end)",
		"0/2: func 1; new 0; func 3; new 1; local 1; func 6; call 1; return; push nil; return | f 0 2 8, g 1 4 8", made(2), none, made(4), made(5), none, none)
	wantCode(t, "({})[function() return 1 end] = function() return 2 end",
		"0/0: table; func 1; func 2; put; push nil; return", "0/0: push 1; return; push nil; return", "0/0: push 2; return; push nil; return")
	wantCode(t, "return (function() return 1 end)(function() return 2 end) and function() return 3 end",
		"0/0: func 1; func 2; call 1; and 5; func 3; return; push nil; return", "0/0: push 1; return; push nil; return", "0/0: push 2; return; push nil; return", "0/0: push 3; return; push nil; return")
	wantCode(t, "if function() return 1 end then local function f() return 2 end else return function() return 3 end end while function() return 4 end do break end",
		"0/1: func 1; jumpfalse 7; push nil; new 0; func 2; setlocal 0; jump 9; func 3; return; func 4; jumpfalse 13; jump 13; jump 9; push nil; return | f 0 4 6",
		"0/0: push 1; return; push nil; return", "0/0: push 2; return; push nil; return", "0/0: push 3; return; push nil; return", "0/0: push 4; return; push nil; return")
}

func TestNamesOfCode(t *testing.T) {
	for _, c := range []struct{ src, code string }{
		{"local x = x", "0/1: raise name; new 0; push nil; return | x 0 2 2"},
		{"local x local x = x", "0/2: push nil; new 0; local 0; new 1; push nil; return | x 0 2 4, x 1 4 4"},
		{"local x = 1 local x = 2 return x", "0/2: push 1; new 0; push 2; new 1; local 1; return; push nil; return | x 0 2 6, x 1 4 6"},
		{"local x if x then local x = x x = 1 end x = 2", "0/2: push nil; new 0; local 0; jumpfalse 8; local 0; new 1; push 1; setlocal 1; push 2; setlocal 0; push nil; return | x 0 2 10, x 1 6 8"},
		{"if 1 then local a end return a", "0/1: push 1; jumpfalse 4; push nil; new 0; raise name; return; push nil; return | a 0 4 4"},
		{"while nil do local print = 1 end print = print", "0/1: push nil; jumpfalse 5; push 1; new 0; jump 0; push host:0; raise name; push nil; return | print 0 4 4"},
		{"if 1 then local a else a = a end", "0/1: push 1; jumpfalse 5; push nil; new 0; jump 7; raise name; raise name; push nil; return | a 0 4 4"},
		{"local print = print print(print)", "0/1: push host:0; new 0; local 0; local 0; call 1; pop; push nil; return | print 0 2 6"},
		{"local error = try error(try) error = 1", "0/1: push host:2; new 0; local 0; push host:2; call 1; pop; push 1; setlocal 0; push nil; return | error 0 2 8"},
		{"local try return try", "0/1: push nil; new 0; local 0; return; push nil; return | try 0 2 4"},
		{"print = 1 error = 2 try = 3", "0/0: push 1; raise name; push 2; raise name; push 3; raise name; push nil; return"},
		{"local _ local A1 = _ return a1", "0/2: push nil; new 0; local 0; new 1; raise name; return; push nil; return | _ 0 2 6, A1 1 4 6"},
	} {
		wantCode(t, c.src, c.code)
	}
	wantCode(t, "return function(a) local a = a a = 1 end", "0/0: func 1; return; push nil; return", "1/2: local 0; new 1; push 1; setlocal 1; push nil; return | a 0 0 4, a 1 2 4")
	wantCode(t, "return function(b, a) if a then local c = b end local d return d end", "0/0: func 1; return; push nil; return",
		"2/3: local 1; jumpfalse 4; local 0; new 2; push nil; new 2; local 2; return; push nil; return | b 0 0 8, a 1 0 8, c 2 4 4, d 2 6 8")
	wantCode(t, "return function(print) print(error) end", "0/0: func 1; return; push nil; return", "1/1: local 0; push host:1; call 1; pop; push nil; return | print 0 0 4")
}

func TestSlotsOfCode(t *testing.T) {
	wantCode(t, "if 1 then local a local b end local c if 1 then local d = c end local e",
		"0/2: push 1; jumpfalse 6; push nil; new 0; push nil; new 1; push nil; new 0; push 1; jumpfalse 12; local 0; new 1; push nil; new 1; push nil; return | a 0 4 6, b 1 6 6, c 0 8 14, d 1 12 12, e 1 14 14")
	wantCode(t, "local a local a local a return a",
		"0/3: push nil; new 0; push nil; new 1; push nil; new 2; local 2; return; push nil; return | a 0 2 8, a 1 4 8, a 2 6 8")
	wantCode(t, "if 1 then local a if 2 then local b local b end local c end local d",
		"0/3: push 1; jumpfalse 12; push nil; new 0; push 2; jumpfalse 10; push nil; new 1; push nil; new 2; push nil; new 1; push nil; new 0; push nil; return | a 0 4 12, b 1 8 10, b 2 10 10, c 1 12 12, d 0 14 14")
	wantCode(t, "while nil do local a end local function f(a) while a do local b end local c end",
		"0/1: push nil; jumpfalse 5; push nil; new 0; jump 0; push nil; new 0; func 1; setlocal 0; push nil; return | a 0 4 4, f 0 7 9",
		"1/2: local 0; jumpfalse 5; push nil; new 1; jump 0; push nil; new 1; push nil; return | a 0 0 7, b 1 4 4, c 1 7 7")
	// A slot that is used again: each function has the cell of its own name.
	wantCode(t, "local t = {} if 1 then local a = 1 t.f = function() return a end end local b = 2 t.g = function() return b end return t.f() .. t.g()",
		`0/2: table; new 0; push 1; jumpfalse 10; push 1; new 1; local 0; push "f"; func 1; put; push 2; new 1; local 0; push "g"; func 2; put; local 0; push "f"; index; call 0; local 0; push "g"; index; call 0; bin ..; return; push nil; return | t 0 2 26, a 1 6 10, b 1 12 26`,
		"0/0 l1: up 0; return; push nil; return", "0/0 l1: up 0; return; push nil; return")
}

func TestUpsOfCode(t *testing.T) {
	wantCode(t, "local a = 1 return function() return function() return a end end",
		"0/1: push 1; new 0; func 1; return; push nil; return | a 0 2 4", "0/0 l0: func 2; return; push nil; return", "0/0 u0: up 0; return; push nil; return")
	wantCode(t, "local b local a = 1 return function(c) return function(d) local e return function() a = a end end end",
		"0/2: push nil; new 0; push 1; new 1; func 1; return; push nil; return | b 0 2 6, a 1 4 6", "1/1 l1: func 2; return; push nil; return | c 0 0 2",
		"1/2 u0: push nil; new 1; func 3; return; push nil; return | d 0 0 4, e 1 2 4", "0/0 u0: up 0; setup 0; push nil; return")
	// The order of need: what a function within comes to first, the expression ahead of the name that it is put into, a key ahead of a value.
	wantCode(t, "local a local b return function() local c = function() return b end return a .. b end",
		"0/2: push nil; new 0; push nil; new 1; func 1; return; push nil; return | a 0 2 6, b 1 4 6",
		"0/1 l1 l0: func 2; new 0; up 1; up 0; bin ..; return; push nil; return | c 0 2 6", "0/0 u0: up 0; return; push nil; return")
	wantCode(t, "local a local b local c local d return function() a = b c[d] = a end",
		"0/4: push nil; new 0; push nil; new 1; push nil; new 2; push nil; new 3; func 1; return; push nil; return | a 0 2 10, b 1 4 10, c 2 6 10, d 3 8 10",
		"0/0 l1 l0 l2 l3: up 0; setup 1; up 2; up 3; up 1; put; push nil; return")
	// One up for a name, however often it is needed; names that hide each other have one each.
	wantCode(t, "local a return function() a = a .. a local b = function() return a end return a end",
		"0/1: push nil; new 0; func 1; return; push nil; return | a 0 2 4",
		"0/1 l0: up 0; up 0; bin ..; setup 0; func 2; new 0; up 0; return; push nil; return | b 0 6 8", "0/0 u0: up 0; return; push nil; return")
	wantCode(t, "local a return function() local b = a local a = 2 return function() return a end end",
		"0/1: push nil; new 0; func 1; return; push nil; return | a 0 2 4",
		"0/2 l0: up 0; new 0; push 2; new 1; func 2; return; push nil; return | b 0 2 6, a 1 4 6", "0/0 l1: up 0; return; push nil; return")
	wantCode(t, "local a return function() if 1 then local a = a end a = 3 end",
		"0/1: push nil; new 0; func 1; return; push nil; return | a 0 2 4",
		"0/1 l0: push 1; jumpfalse 4; up 0; new 0; push 3; setup 0; push nil; return | a 0 4 4")
	wantCode(t, "local a return function(b) return function() return b .. a .. b end end",
		"0/1: push nil; new 0; func 1; return; push nil; return | a 0 2 4", "1/1 l0: func 2; return; push nil; return | b 0 0 2",
		"0/0 l0 u0: up 0; up 1; up 0; bin ..; bin ..; return; push nil; return")
	// A name of the host's is none of a function around, unless there is a local of that name.
	wantCode(t, "local error return function() error(print) try = 1 end",
		"0/1: push nil; new 0; func 1; return; push nil; return | error 0 2 4", "0/0 l0: up 0; push host:0; call 1; pop; push 1; raise name; push nil; return")
	wantCode(t, "if 1 then local a end return function() return a end",
		"0/1: push 1; jumpfalse 4; push nil; new 0; func 1; return; push nil; return | a 0 4 4", "0/0: raise name; return; push nil; return")
	wantCode(t, "local f = function() return a end local a", "0/2: func 1; new 0; push nil; new 1; push nil; return | f 0 2 4, a 1 4 4", "0/0: raise name; return; push nil; return")
	// What stands in a function is not to be named behind it, nor in the one beside it.
	wantCode(t, "local f = function(a) local b end local g = function() return a .. b end return a",
		"0/2: func 1; new 0; func 2; new 1; raise name; return; push nil; return | f 0 2 6, g 1 4 6",
		"1/2: push nil; new 1; push nil; return | a 0 0 2, b 1 2 2", "0/0: raise name; raise name; bin ..; return; push nil; return")
}

func TestLinesOfCode(t *testing.T) {
	for _, c := range [][]string{
		{"", "0 0"},
		{"local x", "1 1 1 1"},
		{"local x = 1 + y", "4 6 4 1 1 1"},
		{"local function f ( ) end", "1 1 2 1 1 1", "6 6"},
		{"local function f ( a ) return a end", "1 1 2 1 1 1", "8 7 7 7"},
		{"if 1 then print ( ) else print ( ) end", "2 1 4 4 4 1 8 8 8 1 1"},
		{"print ( ) if 1 then end", "1 1 1 5 4 1 1"},
		{"while 1 do break end", "2 1 4 1 1 1"},
		{"while 1 do if 2 then break end end", "2 1 5 4 7 1 1 1"},
		{"return", "1 1 1 1"},
		{"return 1", "2 1 1 1"},
		{"break break", "1 2 1 1"},
		{"x = 1", "3 1 1 1"},
		{"( x ) = 1", "5 2 1 1"},
		{"local x x = 1", "1 1 5 3 1 1"},
		{"x . y = 1", "1 3 5 1 1 1"},
		{"x [ y ] = z", "1 3 6 1 1 1"},
		{"return x [ y ]", "2 4 2 1 1 1"},
		{"return ( ( 1 ) + 2 )", "4 7 4 1 1 1"},
		{"return 1 + 2 * 3", "2 4 6 4 2 1 1 1"},
		{"return - 1", "3 2 1 1 1"},
		{"return 1 and 2 or 3", "2 2 4 2 6 1 1 1"},
		{"return { }", "2 1 1 1"},
		{"return function ( ) end", "2 1 1 1", "5 5"},
		{"return function ( ) local a end", "2 1 1 1", "5 5 5 5"},
		{"print ( 1 , 2 )", "1 3 5 1 1 1 1"},
	} {
		wantCodeLines(t, c[0], c[1:]...)
	}
}

// lined numbers the lines of a tree: each node has one of its own, ahead of those of its kids.
func lined(n impl.Node, next *int) impl.Node {
	n.Line = *next
	*next++
	var kids []impl.Node
	for _, kid := range n.Kids {
		kids = append(kids, lined(kid, next))
	}
	n.Kids = kids
	return n
}

// A tree may have any lines: it is its own node's that an instruction has.
func TestOwnLinesOfInstructions(t *testing.T) {
	block, one := tree(impl.NkBlock, ""), impl.Node{Kind: impl.NkInt, N: 1}
	returned := func(exp impl.Node) impl.Node { return tree(impl.NkReturn, "", exp) }
	for _, c := range []struct {
		want string
		n    []impl.Node
	}{
		{"1 1", nil},
		{"3 2 1 1", []impl.Node{tree(impl.NkLocal, "x", one)}},
		{"2 2 1 1", []impl.Node{tree(impl.NkLocal, "x")}},
		{"2 2 3 2 1 1\n4 4", []impl.Node{tree(impl.NkRec, "f", tree(impl.NkFunc, "", block))}},
		{"3 2 1 1", []impl.Node{tree(impl.NkIf, "", one, block)}},
		{"3 2 2 1 1", []impl.Node{tree(impl.NkIf, "", one, block, block)}},
		{"3 2 5 2 1 1", []impl.Node{tree(impl.NkWhile, "", one, tree(impl.NkBlock, "", tree(impl.NkBreak, "")))}},
		{"2 2 1 1", []impl.Node{tree(impl.NkReturn, "")}},
		{"3 2 1 1", []impl.Node{returned(one)}},
		{"2 1 1", []impl.Node{tree(impl.NkBreak, "")}},
		{"4 2 1 1", []impl.Node{tree(impl.NkSet, "", leafName, one)}},
		{"2 2 5 3 1 1", []impl.Node{tree(impl.NkLocal, "a"), tree(impl.NkSet, "", leafName, one)}},
		{"4 5 6 2 1 1", []impl.Node{tree(impl.NkSet, "", tree(impl.NkIndex, "", leafName, one), one)}},
		{"4 5 3 2 1 1", []impl.Node{tree(impl.NkDo, "", tree(impl.NkCall, "", leafName, one))}},
		{"4 5 3 2 1 1", []impl.Node{returned(tree(impl.NkIndex, "", leafName, one))}},
		{"4 5 3 2 1 1", []impl.Node{returned(tree(impl.NkBin, "+", leafName, one))}},
		{"4 3 5 2 1 1", []impl.Node{returned(tree(impl.NkBin, "and", leafName, one))}},
		{"4 3 5 2 1 1", []impl.Node{returned(tree(impl.NkBin, "or", leafName, one))}},
		{"4 3 2 1 1", []impl.Node{returned(tree(impl.NkUn, "-", one))}},
		{"3 2 1 1\n6 5 4 4", []impl.Node{returned(inFunction(returned(one)))}},
	} {
		next := 1
		n := lined(tree(impl.NkBlock, "", c.n...), &next)
		if got := codeLines(wantRight(t, n)); got != c.want {
			t.Errorf("%s\nlines %s, not %s", outline(n, true), got, c.want)
		}
	}
	for _, line := range []int{0, -1, 1<<63 - 1, -1 << 63} {
		n := tree(impl.NkBlock, "", returned(one))
		n.Line, n.Kids[0].Line, n.Kids[0].Kids[0].Line = line, line, line
		for i, in := range wantRight(t, n)[0].Code {
			if in.Line != line {
				t.Error("line", line, "at", i, in.Line)
			}
		}
	}
}

// slotsOf asks how many slots the protos of a program have.
func slotsOf(t *testing.T, src string) []int {
	t.Helper()
	n, line := impl.Read(src)
	if line != 0 {
		t.Fatalf("Read of %.200q: %d", src, line)
	}
	var list []int
	for _, p := range wantRight(t, n) {
		list = append(list, p.Slots)
	}
	return list
}

// Promise 5 holds up to 200 slots at once; more of them are told all the same.
func TestManySlots(t *testing.T) {
	locals := func(count int) string { return strings.Repeat("local a ", count) }
	eight := strings.Join(someNames(8), ", ")
	for count := 190; count < 210; count++ {
		for _, c := range []struct {
			src  string
			want []int
		}{
			{locals(count), []int{count}},
			{"if 1 then " + locals(100) + "else " + locals(count) + "end local a", []int{count}},
			{locals(count-1) + "if 1 then local a else local a end while nil do local a end", []int{count}},
			{locals(9) + "if 1 then " + locals(count-9) + "end " + locals(50), []int{count}},
			{locals(count-1) + "local function f() local a end local function f() end", []int{count + 1, 1, 0}},
			{"return function(" + eight + ") " + locals(count-8) + "end", []int{0, count}},
			{"local a return function() return function(a) " + locals(count-1) + "end end", []int{1, 0, count}},
		} {
			if got := slotsOf(t, c.src); !slices.Equal(got, c.want) {
				t.Errorf("%.60s with %d: %v slots, not %v", c.src, count, got, c.want)
			}
		}
	}
	n, _ := impl.Read(locals(200))
	if list, ok := impl.Compile(n); !ok || !impl.CodeOk(list) {
		t.Error("200 slots")
	}
	n, _ = impl.Read(locals(201))
	if list, ok := impl.Compile(n); !ok || impl.CodeOk(list) {
		t.Error("201 slots")
	}
	if got := slotsOf(t, locals(400)); !slices.Equal(got, []int{400}) {
		t.Error("400 locals:", got)
	}
}
