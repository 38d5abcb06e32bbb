package tests

import (
	"slices"
	"strings"
	"testing"

	"loop.example/g00258/impl"
)

// wantTaken asks how much fuel a source takes, by trying: with that much it ends, with one less it does not.
func wantTaken(t *testing.T, src string, want int) {
	t.Helper()
	n, line := impl.Read(src)
	if line != 0 {
		t.Fatalf("Read of %q: %d", src, line)
	}
	for fuel := range 400 {
		if o := impl.Direct(n, fuel); o.Kind != impl.EndFuel {
			if fuel != want {
				t.Errorf("%q takes %d, not %d", src, fuel, want)
			}
			return
		} else if o.Value != (impl.Value{}) {
			t.Fatal("a value for want of fuel", src, ended(o))
		}
	}
	t.Errorf("%q does not end", src)
}

// The program's block takes 1, each statement, expression and block that is begun 1 more.
func TestFuelOfStatements(t *testing.T) {
	for _, c := range []struct {
		src  string
		want int
	}{
		{"", 0}, {"return", 1}, {"return 1", 2}, {"break", 1}, {"local x", 1}, {"local x = 1", 2}, {"local function f() end", 2},
		{"local function f() print(1) end", 2}, {"local function f(a, b, c) return a end", 2},
		{"local x x = 1", 1 + 2}, {"local x x = x", 1 + 2}, {"y = 1", 2}, {"y = z", 2},
		{"local t = {} t[1] = 2", 2 + 4}, {"local t = {} t.x.y = 2", 2 + 6}, {"local t = {} t.x = {} t.x.y = 2", 2 + 4 + 6},
		{"print(1)", 4}, {"print()", 3}, {"print(1, 2, 3)", 6}, {"error()", 3}, {"error(1) print(2)", 4}, {"(nil)()", 3},
		{"if true then end", 3}, {"if false then end", 2}, {"if false then else end", 3}, {"if true then else end", 3},
		{"if true then local x else local y local z end", 4}, {"if false then local x else local y local z end", 5}, {"if y then end", 2},
		{"while false do end", 2}, {"while true do break end", 4}, {"while true do return end", 4}, {"while true do break local x end", 4},
		{"local i = 0 while i < 3 do i = i + 1 end", 2 + 1 + 4*3 + 3*(1+4)},
		{"return 1 return 2", 2}, {"return y return 2", 2}, {"local x local y local z", 3},
	} {
		wantTaken(t, c.src, 1+c.want)
	}
}

func TestFuelOfExpressions(t *testing.T) {
	for _, c := range []struct {
		exp  string
		want int
	}{
		{"nil", 1}, {"true", 1}, {"false", 1}, {"1", 1}, {`"a"`, 1}, {"{}", 1}, {"function() end", 1}, {"function(a) print(a) return a end", 1}, {"y", 1}, {"print", 1}, {"(1)", 1}, {"((1))", 1},
		{"1 + 2", 3}, {"1 + 2 + 3", 5}, {"1 + (2 + 3)", 5}, {"1 .. 2", 3}, {"1 == 2", 3}, {"1 + nil", 3}, {"1 + nil + 3", 4}, {"1 + (nil + 3)", 5}, {"nil + y", 3}, {"y + nil", 2},
		{"-1", 2}, {"not nil", 2}, {"not not nil", 3}, {"#{}", 2}, {"#5", 2}, {"-y", 2},
		{"1 and 2", 3}, {"nil and 2", 2}, {"false and (1 + 2)", 2}, {"1 and 1 + 2", 5}, {"1 or 2", 2}, {"nil or 2", 3}, {"nil or 1 + 2", 5}, {"nil and 1 or 2", 4}, {"1 or 2 and 3", 2}, {"y and 2", 2},
		{"({}).x", 3}, {"({})[1]", 3}, {"(nil)[1]", 3}, {"(y)[1]", 2}, {"({})[y]", 3}, {`("ab")[1 + 1]`, 5},
		{"print()", 2}, {"print(1)", 3}, {"print(1 + 1)", 5}, {"print(1, 2)", 4}, {"error(1, 2)", 4}, {"(nil)(1)", 3}, {"y(1)", 2}, {"print(y, 1)", 3},
		{"(function() end)()", 3}, {"(function() return end)()", 4}, {"(function() return 1 end)()", 5}, {"(function(a) end)(1)", 4}, {"(function(a, b) end)()", 3}, {"(function() end)(1, 2)", 5},
		{"(function(a) local b = a return b end)(1)", 1 + 1 + 1 + 1 + 2 + 2},
		{"try(print)", 3}, {"try(print, 1)", 4}, {"try(error)", 3}, {"try(try)", 3}, {"try(5)", 3}, {"try()", 2},
		{"try(function() end)", 4}, {"try(function() return 1 end)", 6}, {"try(function() error(1) end)", 1 + 1 + 1 + 1 + 4}, {"try(function() return nil + y end)", 1 + 1 + 1 + 1 + 4},
	} {
		wantTaken(t, "return "+c.exp, 2+c.want)
		wantTaken(t, "local x = "+c.exp, 2+c.want)
		wantTaken(t, "if "+c.exp+" then end", 2+c.want+blockOf(c.exp))
	}
	for _, c := range []struct {
		src  string
		want int
	}{
		{"local function f() end f()", 1 + 2 + 3 + 1},
		{"local function f(n) if n == 0 then return 0 end return f(n - 1) end return f(2)", 1 + 2 + 1 + 3 + 2*(1+1+3+1+2+3) + 1 + 1 + 3 + 1 + 2},
		{"local function f() while true do break end end f() f()", 1 + 2 + 2*(3+1+1+1+1+1)},
		{"local x = 1 local f = function() x = x + 1 end f() return x", 1 + 2 + 2 + 3 + 1 + 4 + 2},
	} {
		wantTaken(t, c.src, c.want)
	}
}

// blockOf tells 1 for an expression that is told and true.
func blockOf(exp string) int {
	n, _ := impl.Read("return not not (" + exp + ")")
	if o := impl.Direct(n, muchFuel); o.Value == boolOf(true) {
		return 1
	}
	return 0
}

// everyForm holds each kind of statement and expression, each word of an error, and prints on its way.
const everyForm = `
local n ; local t = {} ; local seen = "" ; local total = 0
local function note(x) print(x) ; seen = seen .. "." ; return x end
local function fact(n) if n <= 1 then return 1 else return n * fact(n - 1) end return end
while not (n == 3) do
  n = (n or 0) + 1 ; local kept = n ; t[n] = function(a, b) kept = kept + (a or 1) ; return kept end
  if n % 2 == 0 then note("even") else note(fact(n + 3)) end
end
t.first = t[1] ; note(t.first(5)) ; note(t.first()) ; note(t[3]()) ; note(#t) ; note(-n // 2) ; note(("abc")[2])
while true do while true do break end ; note(try(function() break end)) ; if #seen > 3 and true then break end end
note(try(function() return nil + 1 end)) ; note(try(function() return 1 // 0 end)) ; note(try(function() return {} < 1 end))
note(try(function() return {} .. "" end)) ; note(try(function() return #n end)) ; note(try(function() n.x = 1 end)) ; note(try(n))
note(try(function() y = 1 end)) ; note(try(fact)) ; note(try(function() local function f() return f() + 1 end f() end)) ; note(try(error))
note(try(function() error(t) end) == t) ; note(try(function() error(false) end) ~= nil) ; note(try(print)) ; note(nil and note(0))
total = t[2](10) + (t[2](100) - 5) * 2 ; (note)(total > 0) ; print(print) ; print(true, 2)
return try(function() return total end) or seen .. total`

// lasting holds programs that do not end by themselves.
var lasting = []string{
	"while true do end",
	"print(1) while true do end",
	"local i = 0 while true do i = i + 1 if i % 40 == 0 then print(i) end end",
	"local function f() while true do end end print(try(f)) print(2)",
	"local function f(n) if n < 29 then f(n + 1) end end while true do f(0) print(1) if false then break end try(try) end",
	"while try(error) do local function f() error({}) end while not try(print) do end end",
}

func TestEveryFormAtEveryFuel(t *testing.T) {
	n, line := impl.Read(everyForm)
	if line != 0 {
		t.Fatal("line", line)
	}
	var met [21]int
	countKinds(n, &met)
	if slices.Contains(met[:], 0) {
		t.Fatal("a kind that is not there", met)
	}
	whole, printed := elderDirect(n, muchFuel)
	for fuel := -3; fuel < len(printed); fuel++ {
		wantLess(t, n, whole, printed, fuel)
	}
	for fuel := len(printed); fuel < len(printed)+50; fuel++ {
		if got := ended(impl.Direct(n, fuel)); got != ended(whole) {
			t.Fatal("with more fuel", fuel, got)
		}
	}
	for _, word := range strings.Fields("arith divide compare concat length index call name deep break nil even") {
		if !slices.Contains(whole.Out, word) {
			t.Error("not met:", word)
		}
	}
	if got := ended(whole); !strings.HasPrefix(got, `done "....................`) {
		t.Error(got)
	}
	for _, src := range lasting {
		n, line := impl.Read(src)
		if o := wantBoth(t, n, 1500); line != 0 || o.Kind != impl.EndFuel {
			t.Error(src, line, ended(o))
		}
	}
}

// Promise 4 between any two fuels, asked of the answers alone.
func TestMoreFuelAndLess(t *testing.T) {
	sources := append([]string{everyForm, "local i = 0 while true do i = i + 1 print(i) end", "error(print(1))", "return"}, lasting...)
	for _, src := range sources {
		n, line := impl.Read(src)
		if line != 0 {
			t.Fatal("line", line, src)
		}
		before := impl.Outcome{Kind: impl.EndFuel}
		for fuel := range 1200 {
			o := impl.Direct(n, fuel)
			begun := len(before.Out) <= len(o.Out) && slices.Equal(before.Out, o.Out[:len(before.Out)])
			if before.Kind != impl.EndFuel && ended(o) != ended(before) || !begun || o.Kind == impl.EndFuel && o.Value != (impl.Value{}) {
				t.Fatalf("%.200s: with %d fuel %s, with one less %s", src, fuel, ended(o), ended(before))
			}
			before = o
		}
	}
}
