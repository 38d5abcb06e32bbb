package tests

import (
	"strconv"
	"strings"
	"testing"

	"loop.example/g00258/impl"
)

func TestConstantsOfMeanings(t *testing.T) {
	got := []int{impl.EndDone, impl.EndError, impl.EndFuel, impl.MaxCalls, impl.MaxLines}
	for i, want := range []int{0, 1, 2, 30, 200} {
		if got[i] != want {
			t.Error("constant", i, got[i])
		}
	}
}

func TestPrograms(t *testing.T) {
	wantRuns(t,
		"", "done nil",
		"-- nothing", "done nil",
		"return", "done nil",
		"return nil", "done nil",
		"return true", "done true",
		"return false", "done false",
		"return 999999999999", "done 999999999999",
		`return "a\n\"\\b"`, `done "a\n\"\\b"`,
		"return {}", "done table:0",
		"return function() end", "done function:0",
		"local n = 0 local i = 0 while i < 10 do i = i + 1 if i % 2 == 0 then n = n + i else print(i) end end return n", "done 30|1|3|5|7|9",
		"local function fib(n) if n < 2 then return n end return fib(n - 1) + fib(n - 2) end print(fib(10)) return fib(7)", "done 13|55",
		"local t = {} local i = 0 while i < 5 do i = i + 1 t[i] = i * i end t[2] = nil return t[1] + t[3] * 10 + #t * 1000", "done 1091",
		`local function join(t) local s = "" local i = 1 while i <= #t do s = s .. t[i] i = i + 1 end return s end local t = {} t[1] = "a" t[2] = 7 t[3] = "c" return join(t)`, `done "a7c"`,
		`local account = {} account.sum = 5 account.add = function(n) account.sum = account.sum + n return account.sum end print(account.add(3)) return account["add"](-1)`, "done 7|8",
		"local function apply(f, a, b) return f(a, b) end return apply(function(x, y) return x - y end, 2, 9)", "done -7",
	)
}

func TestOperations(t *testing.T) {
	wantRuns(t,
		"return 7 + 3 * 2 - 9 // 2 % 3", "done 12",
		"return -7 // 2", "done -4",
		"return -7 % 2", "done 1",
		"return 999999999999 * 999999999999 * 9", "done -412884226847481847",
		"return 1 == 1", "done true",
		`return 1 == "1"`, "done false",
		`return "a" .. 1 .. "b" ~= "a1b"`, "done false",
		"return 1 < 2", "done true",
		`return "b" <= "a"`, "done false",
		"return 2 >= 2", "done true",
		"return 2 > 2", "done false",
		"return not nil", "done true",
		"return not 0", "done false",
		"return - - 3", "done 3",
		`return #"a\nb"`, "done 3",
		"return #{}", "done 0",
		`return ("abc")[2]`, `done "b"`,
		`return ("abc")[4]`, "done nil",
		`return ("abc").x`, "done nil",
		"return ({}).x", "done nil",
		"return {} == {}", "done false",
		"local t = {} return t == t", "done true",
		"local function f() end return f == f", "done true",
		"local function f() return function() end end return f() == f()", "done false",
		"return print == print", "done true",
		"return print == error", "done false",
		"return nil == false", "done false",
	)
}

func TestErrorsOfOperations(t *testing.T) {
	for _, c := range []struct{ exp, word string }{
		{"nil + 1", "arith"}, {`1 - "1"`, "arith"}, {"{} * 2", "arith"}, {"true // 2", "arith"}, {"print % 1", "arith"}, {"-nil", "arith"}, {`-"1"`, "arith"}, {"nil // 0", "arith"},
		{"1 // 0", "divide"}, {"0 % 0", "divide"},
		{"nil < nil", "compare"}, {`1 < "1"`, "compare"}, {"true <= true", "compare"}, {"{} > {}", "compare"}, {"print >= 1", "compare"},
		{"nil .. nil", "concat"}, {"1 .. {}", "concat"}, {`true .. "a"`, "concat"},
		{"#nil", "length"}, {"#5", "length"}, {"#print", "length"}, {"#true", "length"},
		{"(nil)[1]", "index"}, {"(5).x", "index"}, {"(true)[1]", "index"}, {"print[1]", "index"}, {"(function() end).x", "index"},
		{"nil()", "call"}, {"y", "name"}, {"y()", "name"}, {"y.x", "name"}, {"y + 1", "name"},
	} {
		exp := strings.Replace(c.exp, "nil()", "(nil)()", 1)
		want := "error " + impl.Quote(c.word)
		wantRun(t, "return "+exp, want)
		wantRun(t, "print(1) local x = "+exp+" print(2)", want+"|1")
		wantRun(t, "local x x = "+exp, want)
		wantRun(t, "if "+exp+" then end", want)
		wantRun(t, "while "+exp+" do end", want)
		wantRun(t, "print("+exp+")", want)
		wantRun(t, "local t = {} t["+exp+"] = 1", want)
		wantRun(t, "local t = {} t[1] = "+exp, want)
		wantRun(t, "return {} == ("+exp+")", want)
		wantRun(t, "return not ("+exp+")", want)
		wantRun(t, "return ("+exp+")[1]", want)
		wantRun(t, "return ("+exp+")(1)", want)
		wantRun(t, "return ("+exp+") and 1", want)
		wantRun(t, "return 1 and ("+exp+")", want)
		wantRun(t, "local function f() return "+exp+" end print(f())", want)
		wantRun(t, "return try(function() print(3) return "+exp+" end)", "done "+impl.Quote(c.word)+"|3")
	}
	wantRuns(t,
		"(nil)[1] = 1", `error "index"`,
		"(5).x = 1", `error "index"`,
		`("abc")[1] = "z"`, `error "index"`,
		"print.x = 1", `error "index"`,
		"({})[nil] = 1", `error "index"`,
		"({})[nil] = nil", `error "index"`,
		"local t = {} local i = 0 while true do i = i + 1 print(i) t[i] = i if i == 200 then break end end t[200] = nil t[200] = 5 t[1] = 6 return #t", "done 200|"+numbers(200),
		"local t = {} local i = 0 while true do i = i + 1 t[i] = i print(i) end", `error "index"|`+numbers(200),
		`local s = "abcdefghij" local i = 1 while i < 200 do i = i + 1 s = s .. "abcdefghij" end print(#s) s = s .. 1`, `error "concat"|2000`,
	)
}

// numbers are those from 1 on, as they are printed.
func numbers(count int) string {
	var list []string
	for i := range count {
		list = append(list, strconv.Itoa(i+1))
	}
	return strings.Join(list, "|")
}

func TestLocals(t *testing.T) {
	wantRuns(t,
		"local x print(x) x = 1 print(x) local x print(x)", "done nil|nil|1|nil",
		"local x = 1 local x = x + 1 return x", "done 2",
		"local x = 1 if true then local x = x + 1 print(x) x = 7 end return x", "done 1|2",
		"local x = 1 if true then x = 2 local x = 3 x = 4 end return x", "done 2",
		"local x = 1 local y = function() return x end local x = 2 return y() * 10 + x", "done 12",
		"local x = 1 local f = function(n) x = n end local x = 2 f(5) return x", "done 2",
		"local a = 1 if true then local b = 2 if true then local c = 3 a = b b = c end print(b) end local d = a return d", "done 2|3",
		"if true then local x = 1 end return x", `error "name"`,
		"if false then else local x = 1 end return x", `error "name"`,
		"if true then local x = 1 end x = 2", `error "name"`,
		"while true do local x = 1 break end return x", `error "name"`,
		"local function f() local x = 1 end f() return x", `error "name"`,
		"local function f(x) end f(1) return x", `error "name"`,
		"local function f() local function g() end end f() return g", `error "name"`,
		"if true then local x = 1 else return x end return 2", "done 2",
		"if false then local x = 1 else return x end", `error "name"`,
		"local x = x", `error "name"`,
		"local x = function() return x end return x()", `error "name"`,
		"local x = 1 local x = function() return x end return x()", "done 1",
		"local function f() return x end local x = 1 return f()", `error "name"`,
		"local function f() x = 2 end local x = 1 f() return x", `error "name"`,
		"local x = 1 local function f() return x end x = 2 return f()", "done 2",
	)
}

func TestLocalsMadeAgain(t *testing.T) {
	wantRuns(t,
		"local t = {} local i = 0 while i < 3 do i = i + 1 local j = i t[i] = function() j = j + 1 return j end end t[1]() print(t[1]()) print(t[2]()) return t[3]()", "done 4|3|3",
		"local t = {} local i = 0 while i < 3 do i = i + 1 t[i] = function() i = i + 10 return i end end print(t[1]()) return t[3]()", "done 23|13",
		"local i = 0 while i < 3 do i = i + 1 local x print(x) x = i end", "done nil|nil|nil|nil",
		"local i = 0 local t = {} while i < 3 do i = i + 1 local function f() return i end t[i] = f end print(t[1] == t[2]) return t[1]()", "done 3|false",
		"local i = 0 while i < 2 do i = i + 1 print(try(function() return y end)) local y = i print(y) end", "done nil|name|1|name|2",
		"local i = 0 local get while i < 3 do i = i + 1 local x = i if i == 2 then get = function() return x end end end return get()", "done 2",
		"local function make(n) return function() n = n + 1 return n end end local a = make(1) local b = make(1) a() a() print(a()) return b()", "done 2|4",
		"local function make() local n = 0 local t = {} t.up = function() n = n + 1 end t.get = function() return n end return t end local a = make() local b = make() a.up() a.up() b.up() return a.get() * 10 + b.get()", "done 21",
		"local function f(n) local k = n if n > 0 then f(n - 1) end print(k) end f(3)", "done nil|0|1|2|3",
		"local t = {} local function f(n) t[n] = function() return n end if n > 1 then f(n - 1) end end f(3) return t[1]() + t[2]() * 10 + t[3]() * 100", "done 321",
		"local f = function(a) return function(b) return function(c) local d = a * 100 + b * 10 + c a = 9 return d end end end local g = f(1)(2) print(g(3)) return g(4)", "done 924|123",
		// Behind a loop that is left the names stand as ahead of it.
		"local a = 1 while true do local b = 2 local c = 3 if true then local d = 4 break end end local e = 5 return a * 10 + e", "done 15",
		"local a = 1 local i = 0 while i < 3 do i = i + 1 local b = i if b == 2 then local a = 7 local c = b else local a = 8 end a = a + b end return a", "done 7",
		"local a = 1 try(function() local b = 2 local c = 3 error(b) end) local d = 4 return a * 10 + d", "done 14",
	)
}

func TestLocalFunctions(t *testing.T) {
	wantRuns(t,
		"local function f(n) if n == 0 then return 0 end return n + f(n - 1) end return f(9)", "done 45",
		"local function f() return f end return f() == f", "done true",
		"local function f() return f end local g = f f = 5 return g()", "done 5",
		"local function f(n) if n == 0 then return 1 end return f(n - 1) end local g = f f = function(n) return n * 10 end return g(3)", "done 20",
		"local function f() f = 3 end f() return f", "done 3",
		"local function f() return 1 end local g = f local function f() return 2 end return g() * 10 + f()", "done 12",
		"local f = 1 local function f() return f end return f() == f", "done true",
		"local function f(f) return f end return f(4)", "done 4",
		"local function f() local f = 6 return f end return f()", "done 6",
		"local x = 1 local function f(x) x = x + 1 return x end print(f(5)) return x", "done 1|6",
		"local odd local function even(n) if n == 0 then return true end return odd(n - 1) end odd = function(n) if n == 0 then return false end return even(n - 1) end return even(9)", "done false",
		"local function a() end local function b() end return function() end", "done function:2",
		"local i = 0 local f while i < 3 do i = i + 1 f = function() end end return f", "done function:2",
		"if false then local function a() end end return function() end", "done function:0",
		"local function a() local function b() end return b end a() return a()", "done function:2",
	)
}

func TestHosts(t *testing.T) {
	wantRuns(t,
		"return print", "done host:0",
		"return error", "done host:1",
		"return try", "done host:2",
		"local p = print p(1) return p", "done host:0|1",
		"return Print", `error "name"`,
		"return printer", `error "name"`,
		"print = 1", `error "name"`,
		"error = 1", `error "name"`,
		"try = nil", `error "name"`,
		"y = 1", `error "name"`,
		"y = print(1)", `error "name"|1`,
		"print = print(1)", `error "name"|1`,
		"y = error(2)", "error 2",
		"y = y", `error "name"`,
		"local function f() print = 1 end print(2) f()", `error "name"|2`,
		"local print = 5 print = print + 1 return print", "done 6",
		"local print = print print(1) print = 2 return print", "done 2|1",
		"local p = print local print p(print)", "done nil|nil",
		"if true then local print = 1 end print(2)", "done nil|2",
		"local function f(print) print = print + 1 return print end print(f(7))", "done nil|8",
		"local function print(x) return x end return print(3)", "done 3",
		"local function error(x) return x end return try(error)", "done nil",
		"local function try(x) return x end return try(error)", "done host:1",
		"local function f(error) error(1) end f(print)", "done nil|1",
		"local try = 5 try(print)", `error "call"`,
	)
}

func TestPrint(t *testing.T) {
	wantRuns(t,
		"print()", "done nil|nil",
		"print(nil)", "done nil|nil",
		"print(true) print(false)", "done nil|true|false",
		"print(0) print(-5) print(999999999999 * 999999999999)", "done nil|0|-5|"+strconv.Itoa(999999999999*999999999999%(1<<64)),
		`print("") print("a b") print("\n")`, "done nil||a b|\n",
		"print({})", "done nil|table",
		"print(function() end)", "done nil|function",
		"print(print) print(error) print(try)", "done nil|function|function|function",
		"print(1, 2)", "done nil|1",
		"print(nil, 2)", "done nil|nil",
		"print(1, 2, 3, 4, 5, 6, 7, 8)", "done nil|1",
		"return print(1)", "done nil|1",
		"print(print(1))", "done nil|1|nil",
		`print(1, y)`, `error "name"`,
		`local s = "x" local i = 0 while i < 10 do i = i + 1 s = s .. s end print(s)`, "done nil|"+strings.Repeat("x", 1024),
	)
}

func TestError(t *testing.T) {
	wantRuns(t,
		"error()", "error nil",
		"error(nil)", "error nil",
		"error(false)", "error false",
		"error(-3)", "error -3",
		`error("no")`, `error "no"`,
		"error({})", "error table:0",
		"local t = {} error({})", "error table:1",
		"error(function() end)", "error function:0",
		"error(error)", "error host:1",
		"error(1, 2)", "error 1",
		"print(1) error(2) print(3)", "error 2|1",
		"local function f() error(1) print(2) end f() print(3)", "error 1",
		"while true do if true then error(4) end end", "error 4",
		"local x = error(5) print(x)", "error 5",
		"return error(6)", "error 6",
		"error(error(7))", "error 7",
		"return 1 + error(8)", "error 8",
		"local e = error e(9)", "error 9",
	)
}

func TestTry(t *testing.T) {
	wantRuns(t,
		"return try(function() end)", "done nil",
		"return try(function() return 5 end)", "done nil",
		"return try(function() error() end)", `done "nil"`,
		"return try(function() error(nil) end)", `done "nil"`,
		"return try(function() error(true) end)", "done true",
		"return try(function() error(false) end)", "done false",
		"return try(function() error(7) end)", "done 7",
		`return try(function() error("") end)`, `done ""`,
		`return try(function() error("nil") end)`, `done "nil"`,
		"return try(function() error({}) end)", "done table:0",
		"local t = {} return try(function() error(t) end) == t", "done true",
		"return try(function() error(function() end) end)", "done function:1",
		"return try(function() error(try) end)", "done host:2",
		"return try(print)", "done nil|nil",
		"return try(error)", `done "nil"`,
		"return try(try)", "done nil",
		"return try()", `done "call"`,
		"return try(nil)", `done "call"`,
		"return try(true)", `done "call"`,
		"return try(5)", `done "call"`,
		`return try("print")`, `done "call"`,
		"return try({})", `done "call"`,
		"return try(y)", `error "name"`,
		"return try(error(1))", "error 1",
		"return try(print, error(1))", "error 1",
		"return try(print, 7)", "done nil|nil",
		"local function f(a) print(a) end try(f, 7)", "done nil|nil",
		"return try(function() error(try(function() error(1) end) + 1) end)", "done 2",
		"return try(function() try(function() error(1) end) end)", "done nil",
		"return try(function() return try(function() error(1) end) end)", "done nil",
		"return try(function() print(try(error)) print(try(5)) error(3) end)", "done 3|nil|call",
		"local t = try return t(error)", `done "nil"`,
		"print(try(function() print(1) error(2) print(3) end)) print(4)", "done nil|1|2|4",
		"local i = 0 while i < 3 do i = i + 1 print(try(function() if i == 2 then error(i) end end)) end", "done nil|nil|2|nil",
		"local function f(n) if n == 0 then error(\"end\") end f(n - 1) end return try(function() f(5) end)", `done "end"`,
		"return try(function() while true do return 1 end end)", "done nil",
		"while true do print(try(function() break end)) break end", "done nil|break",
	)
}

// What became of cells, tables, functions and lines stays as it is behind an error.
func TestTryBringsNothingBack(t *testing.T) {
	t.Parallel()
	wantRuns(t,
		"local x = 1 try(function() x = 2 error(0) end) return x", "done 2",
		"local t = {} try(function() t.k = 3 error(0) end) return t.k", "done 3",
		"try(function() local a = {} error(0) end) return {}", "done table:1",
		"try(function() local a = function() end error(0) end) return function() end", "done function:2",
		"try(function() print(1) print(2) error(0) end) print(3)", "done nil|1|2|3",
		"local keep try(function() local n = 5 keep = function() n = n + 1 return n end error(0) end) keep() return keep()", "done 7",
		"local i = 0 while i < 2998 do i = i + 1 try(function() local x = i error(x) end) end local a return i", "done 2998",
		"local i = 0 while i < 2998 do i = i + 1 try(function() local x = i error(x) end) end local a local b", `error "cells"`,
		"local i = 0 while i < 2999 do i = i + 1 try(function() local x = i error(x) end) end local b", `error "cells"`,
		"local i = 0 while i < 499 do i = i + 1 try(function() return nil + {} end) end return {}", "done table:499",
		"local i = 0 while i < 500 do i = i + 1 try(function() return nil + {} end) end return {}", `error "tables"`,
		"local i = 0 while i < 200 do i = i + 1 try(function() print(i) error(1) end) end return print(1)", `error "full"|`+numbers(200),
	)
}

func TestTooManyCells(t *testing.T) {
	t.Parallel()
	loop := func(count int, body string) string {
		return "local i = 0 while i < " + strconv.Itoa(count) + " do i = i + 1 " + body + " end "
	}
	wantRuns(t,
		loop(2999, "local x"), "done nil",
		loop(3000, "local x"), `error "cells"`,
		loop(2998, "local x = i")+"local y = 5 return y", "done 5",
		loop(2999, "local x = i")+"print(i) local y = 5 return y", `error "cells"|2999`,
		loop(2999, "local x")+"local y = print(1)", `error "cells"|1`,
		loop(2999, "local x")+"local y = error(1)", "error 1",
		loop(2998, "local x")+"local function f() return f end return f()", "done function:0",
		loop(2999, "local x")+"local function f() return f end return f()", `error "cells"`,
		loop(2999, "local x")+"return (function() return 8 end)()", "done 8",
		loop(2998, "local x")+"return (function(a) return a end)(8)", "done 8",
		loop(2999, "local x")+"return (function(a) return a end)(8)", `error "cells"`,
		loop(2999, "local x")+"return (function(a) return 1 end)()", `error "cells"`,
		loop(2991, "local x")+"return (function(a, b, c, d, e, f, g, h) return h end)(1, 2, 3, 4, 5, 6, 7, 8)", "done 8",
		loop(2992, "local x")+"return (function(a, b, c, d, e, f, g, h) return h end)(1, 2, 3, 4, 5, 6, 7, 8)", `error "cells"`,
		loop(2999, "local x")+"print(try(function() local x end)) print(i) return {}", "done table:0|cells|2999",
		"local function f(n) return n end "+loop(2998, "f(i)"), "done nil",
		"local function f(n) return n end "+loop(2999, "f(i)"), `error "cells"`,
	)
}

func TestTooManyTables(t *testing.T) {
	wantRuns(t,
		"local i = 0 while i < 500 do i = i + 1 local t = {} end", "done nil",
		"local i = 0 while i < 499 do i = i + 1 local t = {} end return {}", "done table:499",
		"local i = 0 while i < 500 do i = i + 1 local t = {} end print(i) return {}", `error "tables"|500`,
		"local i = 0 while true do i = i + 1 print(i // 100) local t = {} t = nil if i == 150 then break end end while true do i = i + 1 local t = {} end", `error "tables"|`+strings.Repeat("0|", 99)+strings.Repeat("1|", 50)+"1",
		"local i = 0 while i < 500 do i = i + 1 local t = {} end return try(function() return {} end)", `done "tables"`,
	)
}

func TestTooDeep(t *testing.T) {
	count := "local function f(n) if n == 1 then return 1 end return 1 + f(n - 1) end "
	deepest := "local function f(n) if n > 1 then return f(n - 1) end "
	wantRuns(t,
		count+"return f(30)", "done 30",
		count+"return f(31)", `error "deep"`,
		count+"return try(function() return f(29) end)", "done nil",
		count+"return try(function() return f(30) end)", `done "deep"`,
		count+"print(f(30)) print(f(30)) print(try(function() f(30) end)) return f(30)", "done 30|30|30|deep",
		"local d = 0 local function f() d = d + 1 return f() end f()", `error "deep"`,
		"local d = 0 local function f() d = d + 1 return f() end print(try(f)) print(d) print(try(f)) return d", "done 60|deep|30|deep",
		"local d = 0 local function f() d = d + 1 print(try(f)) end f() return d", "done 30|deep"+strings.Repeat("|nil", 29),
		"local f = function(f, n) print(n) return f(f, n + 1) end f(f, 1)", `error "deep"|`+numbers(30),
		// What is called there and is no KFunc is done still; the arguments are reckoned ahead.
		deepest+"print(1) print(try(print)) return 5 end return f(30)", "done 5|1|nil|nil",
		deepest+"error(6) end return f(30)", "error 6",
		deepest+"return (5)() end return f(30)", `error "call"`,
		deepest+"return f(print(7)) end return f(30)", `error "deep"|7`,
		deepest+"return f(print(7)) end return try(f)", `done "compare"`,
		deepest+"print(try(f)) return 4 end return f(30)", "done 4|deep",
		deepest+"return 3 end local i = 0 while i < 40 do i = i + 1 f(30) end return f(30)", "done 3",
	)
}

func TestFull(t *testing.T) {
	wantRuns(t,
		"local i = 0 while i < 200 do i = i + 1 print(i) end", "done nil|"+numbers(200),
		"local i = 0 while i < 201 do i = i + 1 print(i) end", `error "full"|`+numbers(200),
		"local i = 0 while i < 200 do i = i + 1 print(i) end print(error(3))", "error 3|"+numbers(200),
		"local i = 0 while i < 200 do i = i + 1 print(i) end local e = try(print) if e == \"full\" then return try(function() print(5) end) end", `done "full"|`+numbers(200),
		"local i = 0 while i < 210 do i = i + 1 try(function() print(i) end) end return i", "done 210|"+numbers(200),
	)
}

// tells begins a program with functions that print what they tell: p, and one that tells a table.
const tells = "local function p(x) print(x) return x end local t = {} local function q(x) print(x) return t end "

func TestOrderOfKids(t *testing.T) {
	for _, op := range []string{"+", "-", "*", "//", "%", "<", "<=", ">", ">=", "==", "~=", ".."} {
		n, _ := impl.Read(tells + "return p(1) " + op + " p(2)")
		if o := wantBoth(t, n, muchFuel); o.Kind != impl.EndDone || strings.Join(o.Out, " ") != "1 2" {
			t.Error(op, ended(o))
		}
		wantRun(t, "return y "+op+" error(1)", `error "name"`)
		wantRun(t, "return error(1) "+op+" y", "error 1")
		wantRun(t, "return {} "+op+" error(1)", "error 1")
		wantRun(t, "return nil "+op+" y", `error "name"`)
	}
	wantRuns(t,
		tells+"return p(1) + p(2) * p(3)", "done 7|1|2|3",
		tells+"return (p(1) + p(2)) * p(3)", "done 9|1|2|3",
		tells+`return p("a") .. p("b") .. p("c")`, `done "abc"|a|b|c`,
		tells+`return q("t")[p("k")]`, "done nil|t|k",
		tells+"return p(p)(p(1), p(2))", "done 1|function|1|2|1",
		tells+"p(print)(p(1), p(2), p(3))", "done nil|function|1|2|3|1",
		tells+"p(nil)(p(1), p(2))", `error "call"|nil|1|2`,
		tells+`q("t")[p("k")] = p("v") return t.k`, `done "v"|t|k|v`,
		tells+`q("a")[p("b")] = q("c")[p("d")]`, "done nil|a|b|c|d",
		tells+`p(nil)[p(nil)] = p(1)`, `error "index"|nil|nil|1`,
		tells+`p(nil)[p(nil)] = p(p(1) + nil)`, `error "arith"|nil|nil|1`,
		tells+"local x x = p(3) return x", "done 3|3",
		tells+"y = p(3)", `error "name"|3`,
		tells+"t.k = 1 t.k = t.k + p(t.k) + 1 return t.k", "done 3|1",
		"return (1 + nil) + (1 < nil)", `error "arith"`,
		"return (1 < nil) + (1 + nil)", `error "compare"`,
		"(nil)[y] = error(1)", `error "name"`,
		"(nil)[1] = error(1)", "error 1",
		"({})[nil] = y", `error "name"`,
		"(nil)[error(1)] = y", "error 1",
		"y[error(1)] = error(2)", `error "name"`,
		"return y[error(1)]", `error "name"`,
		"return (nil)[error(1)]", "error 1",
		"y(error(1))", `error "name"`,
		"(nil)(error(1))", "error 1",
		"print(error(1), y)", "error 1",
		"print(y, error(1))", `error "name"`,
		"error(1 + nil)", `error "arith"`,
		"return #y", `error "name"`,
	)
	// What a right kid does to a name that the left one has told already is too late for that.
	wantRuns(t,
		"local x = 1 local function f() x = 10 return x end return x + f()", "done 11",
		"local x = 1 local function f() x = 10 return x end return f() + x", "done 20",
		"local f = print local function g() f = error return 1 end f(g()) return f", "done host:1|1",
		"local t = {} local u = t local function g() t = {} return 5 end t[g()] = g() print(u[5]) return t[5]", "done nil|5",
		"local t = {} t.x = 1 local function g() t.x = 2 return 0 end return t.x + g() + t.x * 10", "done 21",
	)
}

func TestAndOr(t *testing.T) {
	for _, c := range []struct{ exp, word string }{
		{"nil", "nil"}, {"false", "false"}, {"true", "true"}, {"0", "0"}, {`""`, `""`}, {"{}", "table:1"}, {"print", "host:0"}, {"p", "function:0"},
	} {
		holds := c.word != "nil" && c.word != "false"
		shown := c.exp
		if c.word == `""` {
			shown = ""
		} else if strings.Contains(c.word, ":") {
			shown = strings.Replace(strings.Split(c.word, ":")[0], "host", "function", 1)
		}
		second := "done 7|" + shown + "|7"
		first := "done " + c.word + "|" + shown
		and, or := second, first
		if !holds {
			and, or = first, second
		}
		wantRun(t, tells+"return p("+c.exp+") and p(7)", and)
		wantRun(t, tells+"return p("+c.exp+") or p(7)", or)
		wantRun(t, tells+"if p("+c.exp+") then return true else return false end", "done "+strconv.FormatBool(holds)+"|"+shown)
		wantRun(t, tells+"while p("+c.exp+") do return true end return false", "done "+strconv.FormatBool(holds)+"|"+shown)
		wantRun(t, tells+"return not p("+c.exp+")", "done "+strconv.FormatBool(!holds)+"|"+shown)
	}
	wantRuns(t,
		"return nil and y", "done nil",
		"return false and y", "done false",
		"return 1 or y", "done 1",
		"return 1 and y", `error "name"`,
		"return nil or y", `error "name"`,
		"return y and 1", `error "name"`,
		"return y or 1", `error "name"`,
		tells+"return p(1) and p(nil) and p(3)", "done nil|1|nil",
		tells+"return p(nil) or p(false) or p(3) or p(4)", "done 3|nil|false|3",
		tells+"return p(nil) and p(1) or p(2)", "done 2|nil|2",
		tells+"return p(nil) or p(1) and p(2)", "done 2|nil|1|2",
		tells+"return p(1) or p(2) and p(3)", "done 1|1",
		"return nil or false", "done false",
		"return false or nil", "done nil",
		"return false and nil", "done false",
	)
}

func TestCalls(t *testing.T) {
	wantRuns(t,
		"local function f(a, b) print(a) print(b) end f() f(1) f(1, 2) f(1, 2, 3)", "done nil|nil|nil|1|nil|1|2|1|2",
		"local function f() return 1 end return f(2, 3)", "done 1",
		tells+"local function f() return 1 end return f(p(2), p(3))", "done 1|2|3",
		"local function f() return 1 end return f(y)", `error "name"`,
		"local function f(a, b, c, d, e, f, g, h) return a + b * 2 + c * 4 + d * 8 + e * 16 + f * 32 + g * 64 + h * 128 end return f(1, 1, 1, 1, 1, 1, 1, 1)", "done 255",
		"local function f() end return f()", "done nil",
		"local function f() return end return f()", "done nil",
		"local function f() 	local x = 5 end return f()", "done nil",
		"return (function(a) a = a + 1 return a end)(1)", "done 2",
		"local a = 1 local function f(b) b = b + 1 end f(a) return a", "done 1",
		"local t = {} local function f(t) t.x = 1 t = {} t.x = 2 end f(t) return t.x", "done 1",
		"(nil)()", `error "call"`,
		"(true)()", `error "call"`,
		"(5)()", `error "call"`,
		`("print")(1)`, `error "call"`,
		"({})()", `error "call"`,
		"local f f()", `error "call"`,
		"local function f() end f()()", `error "call"`,
		"local function f() return f end return f()()() == f", "done true",
	)
}

func TestBreak(t *testing.T) {
	wantRuns(t,
		"break", `error "break"`,
		"if true then break end", `error "break"`,
		"print(1) break print(2)", `error "break"|1`,
		"while true do break print(1) end print(2)", "done nil|2",
		"while true do if true then break print(1) end print(2) end print(3)", "done nil|3",
		"while true do if false then else if true then if true then break end end end end return 4", "done 4",
		"local i = 0 while true do i = i + 1 while true do break end if i == 3 then break end print(i) end return i", "done 3|1|2",
		"while true do while true do break end print(1) break end break", `error "break"|1`,
		"while true do break end break", `error "break"`,
		"while false do break end break", `error "break"`,
		"local function f() break end f()", `error "break"`,
		"local function f() break end while true do f() end", `error "break"`,
		"while true do local function f() break end f() end", `error "break"`,
		"while true do local f = function() if true then break end end f() end", `error "break"`,
		"while true do (function() break end)() end", `error "break"`,
		"while (function() break end)() do end", `error "break"`,
		"while true do local function f() while true do break end return 1 end print(f()) break end", "done nil|1",
		"while true do print(try(function() break end)) break end return 2", "done 2|break",
		"local function f() while true do local function g() break end print(try(g)) break end return 7 end return f()", "done 7|break",
		"if false then break end return 1", "done 1",
	)
}

func TestReturn(t *testing.T) {
	wantRuns(t,
		"return 1 return 2", "done 1",
		"return; print(1)", "done nil",
		"print(1) return 2 print(3)", "done 2|1",
		"if true then return 1 end return 2", "done 1",
		"if false then return 1 else return 3 end return 2", "done 3",
		"while true do return 1 end", "done 1",
		"while true do while true do if true then return 5 end end end return 6", "done 5",
		"local function f() while true do while true do return 5 end end end print(f()) return 6", "done 6|5",
		"local function f() if true then return 1 end print(2) end print(f()) print(3)", "done nil|1|3",
		"local i = 0 while i < 3 do i = i + 1 local function f() while true do return i end end print(f()) end", "done nil|1|2|3",
		"local function f() local function g() return 1 end g() return 2 end return f()", "done 2",
		"local function f() try(function() return 1 end) return 2 end return f()", "done 2",
		"local function f() return function() return f end end return f()() == f", "done true",
		"return y", `error "name"`,
	)
}
