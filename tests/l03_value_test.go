package tests

import (
	"math"
	"math/big"
	"strconv"
	"strings"
	"testing"

	"loop.example/g00258/impl"
)

func intOf(n int) impl.Value { return impl.Value{Kind: impl.KInt, N: n} }

func textOf(s string) impl.Value { return impl.Value{Kind: impl.KText, S: s} }

func tableOf(n int) impl.Value { return impl.Value{Kind: impl.KTable, N: n} }

func boolOf(b bool) impl.Value {
	if b {
		return impl.Value{Kind: impl.KBool, N: 1}
	}
	return impl.Value{Kind: impl.KBool}
}

// properValues holds some of every kind, no two alike.
func properValues() []impl.Value {
	list := []impl.Value{{}, boolOf(false), boolOf(true)}
	for _, n := range []int{0, 1, -1, 2, 3, 200, math.MaxInt, math.MinInt} {
		list = append(list, intOf(n))
	}
	for _, s := range []string{"", "1", "0", "a", "ab", "abc", "nil", "\x00", "\x7f", "\x80", "\xff", "é"} {
		list = append(list, textOf(s))
	}
	for n := range 3 {
		list = append(list, tableOf(n), impl.Value{Kind: impl.KFunc, N: n}, impl.Value{Kind: impl.KHost, N: n})
	}
	return list
}

// oddValues are those that the chapter does not want.
func oddValues() []impl.Value {
	var list []impl.Value
	for _, kind := range []int{7, 8, -1, 1000, math.MaxInt, math.MinInt} {
		list = append(list, impl.Value{Kind: kind}, impl.Value{Kind: kind, N: 1}, impl.Value{Kind: kind, S: "a"})
	}
	for kind := impl.KNil; kind <= impl.KHost; kind++ {
		list = append(list, impl.Value{Kind: kind, N: 2, S: "x"}, impl.Value{Kind: kind, N: 0, S: "x"}, impl.Value{Kind: kind, N: -1}, impl.Value{Kind: kind, N: math.MinInt}, impl.Value{Kind: kind, N: math.MaxInt})
	}
	return list
}

func anyValues() []impl.Value {
	return append(properValues(), oddValues()...)
}

func wantValue(t *testing.T, what string, got impl.Value, refusal string, want impl.Value) {
	t.Helper()
	if got != want || refusal != "" {
		t.Errorf("%s: %s, want %s", what, told(refusal, got), told("", want))
	}
}

func wantRefused(t *testing.T, what string, got impl.Value, refusal string, want string) {
	t.Helper()
	if got != (impl.Value{}) || refusal != want {
		t.Errorf("%s: %s, want nil and %q", what, told(refusal, got), want)
	}
}

func told(op string, values ...impl.Value) string {
	words := []string{strconv.Quote(op)}
	for _, v := range values {
		words = append(words, "{"+strconv.Itoa(v.Kind)+" "+strconv.Itoa(v.N)+" "+strconv.Quote(v.S)+"}")
	}
	return strings.Join(words, " ")
}

var arithSigns = strings.Fields("+ - * // %")

var compareSigns = strings.Fields("== ~= < <= > >=")

// otherSigns are those of no function of this chapter, or of another one.
var otherSigns = append(strings.Fields(".. and or = / ! not# -- +- %% <> ~ add"), "", " ", "+ ", " <", "\x00", "\xff")

func TestConstantsOfValues(t *testing.T) {
	got := []int{impl.KNil, impl.KBool, impl.KInt, impl.KText, impl.KTable, impl.KFunc, impl.KHost, impl.MaxText, impl.MaxCells}
	for i, want := range []int{0, 1, 2, 3, 4, 5, 6, 2000, 3000} {
		if got[i] != want {
			t.Error("constant", i, got[i])
		}
	}
}

func TestTruth(t *testing.T) {
	for _, v := range properValues() {
		want := v != impl.Value{} && v != boolOf(false)
		if impl.Truth(v) != want {
			t.Error("truth of", told("", v))
		}
	}
	for _, v := range []impl.Value{{Kind: 7}, {Kind: -1}, {Kind: math.MaxInt}, {Kind: math.MinInt}, {Kind: impl.KBool, N: 2}, {Kind: impl.KBool, N: -1}} {
		if !impl.Truth(v) {
			t.Error("neither nil nor false:", told("", v))
		}
	}
}

func TestShowValue(t *testing.T) {
	for n, want := range map[int]string{0: "0", 7: "7", -5: "-5", 1000: "1000", math.MaxInt: "9223372036854775807", math.MinInt: "-9223372036854775808"} {
		if got := impl.ShowValue(intOf(n)); got != want {
			t.Error("number", n, got)
		}
	}
	for _, s := range []string{"", "a", "nil", "a\n\"\\", "\x00\xff", strings.Repeat("é", 3000)} {
		if got := impl.ShowValue(textOf(s)); got != s {
			t.Errorf("text %q: %q", s, got)
		}
	}
	words := map[int]string{impl.KNil: "nil", impl.KTable: "table", impl.KFunc: "function", impl.KHost: "function", 7: "", -1: "", math.MinInt: ""}
	for kind, want := range words {
		if got := impl.ShowValue(impl.Value{Kind: kind}); got != want {
			t.Error("kind", kind, got)
		}
		if got := impl.ShowValue(impl.Value{Kind: kind, N: 2}); got != want && kind != impl.KNil {
			t.Error("kind", kind, "with a number", got)
		}
	}
	for n, want := range map[int]string{0: "false", 1: "true", 2: "true", -1: "true"} {
		if got := impl.ShowValue(impl.Value{Kind: impl.KBool, N: n}); got != want {
			t.Error("bool", n, got)
		}
	}
}

func TestArithOfSomeNumbers(t *testing.T) {
	const most, least = math.MaxInt, math.MinInt
	rows := []struct {
		a    int
		op   string
		b    int
		want int
	}{
		{2, "+", 3, 5}, {2, "-", 3, -1}, {-2, "*", 3, -6}, {0, "+", 0, 0},
		{most, "+", 1, least}, {least, "+", -1, most}, {least, "-", 1, most}, {0, "-", least, least}, {-2, "-", most, most},
		{most, "*", 2, -2}, {least, "*", -1, least}, {least, "*", 2, 0}, {most, "*", most, 1}, {4294967296, "*", 4294967296, 0},
		{7, "//", 2, 3}, {-7, "//", 2, -4}, {7, "//", -2, -4}, {-7, "//", -2, 3}, {6, "//", 3, 2}, {-6, "//", 3, -2}, {0, "//", -5, 0},
		{1, "//", 2, 0}, {-1, "//", 2, -1}, {1, "//", -2, -1}, {-1, "//", most, -1}, {1, "//", least, -1}, {-1, "//", least, 0},
		{7, "%", 2, 1}, {-7, "%", 2, 1}, {7, "%", -2, -1}, {-7, "%", -2, -1}, {6, "%", -3, 0}, {-6, "%", 3, 0}, {0, "%", -5, 0},
		{1, "%", least, least + 1}, {-1, "%", most, most - 1}, {most, "%", least, -1}, {least, "%", most, most - 1},
		{least, "//", -1, least}, {least, "%", -1, 0}, {least, "//", 1, least}, {least, "//", least, 1}, {least, "//", 2, least / 2}, {least + 1, "//", -1, most}, {least, "//", most, -2},
	}
	for _, r := range rows {
		got, refusal := impl.Arith(r.op, intOf(r.a), intOf(r.b))
		wantValue(t, told(r.op, intOf(r.a), intOf(r.b)), got, refusal, intOf(r.want))
	}
}

// around brings a number of any size into 64 bits.
func around(x *big.Int) int {
	bits := new(big.Int).And(x, new(big.Int).SetUint64(math.MaxUint64))
	return int(bits.Uint64())
}

// reckonLarge is a second reckoning, without bounds till the last.
func reckonLarge(op string, a int, b int) int {
	x, y := big.NewInt(int64(a)), big.NewInt(int64(b))
	down := func() *big.Int {
		q, rest := new(big.Int).QuoRem(x, y, new(big.Int))
		if rest.Sign() != 0 && rest.Sign() != y.Sign() {
			q.Sub(q, big.NewInt(1))
		}
		return q
	}
	switch op {
	case "+":
		return around(x.Add(x, y))
	case "-":
		return around(x.Sub(x, y))
	case "*":
		return around(x.Mul(x, y))
	case "//":
		return around(down())
	}
	q := down()
	return around(x.Sub(x, q.Mul(q, y)))
}

func someNumbers() []int {
	var list []int
	for n := -12; n <= 12; n++ {
		list = append(list, n)
	}
	for n := range 4 {
		list = append(list, math.MaxInt-n, math.MinInt+n, math.MaxInt/2+n-1, math.MinInt/2+n-1, 1<<32+n-2, -1<<32+n-2, 1<<31+n-2, 3037000499+n)
	}
	return list
}

// Promise 3, its first half: a quotient, down, times the divisor and the rest are what was divided.
func wantQuotient(t *testing.T, a int, b int) {
	t.Helper()
	q, _ := impl.Arith("//", intOf(a), intOf(b))
	rest, _ := impl.Arith("%", intOf(a), intOf(b))
	back, _ := impl.Arith("*", q, intOf(b))
	back, _ = impl.Arith("+", back, rest)
	if back != intOf(a) {
		t.Fatal("not what was divided:", a, b, q, rest)
	}
	if b > 0 && (rest.N < 0 || rest.N >= b) || b < 0 && (rest.N > 0 || rest.N <= b) {
		t.Fatal("the rest is not between 0 and the divisor:", a, b, rest)
	}
}

func wantReckoned(t *testing.T, a int, b int) {
	t.Helper()
	for _, op := range arithSigns {
		got, refusal := impl.Arith(op, intOf(a), intOf(b))
		what := told(op, intOf(a), intOf(b))
		if b == 0 && (op == "//" || op == "%") {
			wantRefused(t, what, got, refusal, "divide")
		} else {
			wantValue(t, what, got, refusal, intOf(reckonLarge(op, a, b)))
		}
	}
	if b != 0 {
		wantQuotient(t, a, b)
	}
}

func TestArithOfAnyNumbers(t *testing.T) {
	list := someNumbers()
	for _, a := range list {
		for _, b := range list {
			wantReckoned(t, a, b)
		}
	}
	d := dice{seed: 31}
	for range 20000 {
		wantReckoned(t, d.bits(), d.bits())
	}
}

// bits tells a number of any size up to 64 bits.
func (d *dice) bits() int {
	n := d.below(1<<31)<<33 ^ d.below(1<<31)<<16 ^ d.below(1<<31)
	return n >> d.below(64)
}

func TestArithRefuses(t *testing.T) {
	for _, a := range anyValues() {
		for _, b := range anyValues() {
			for _, op := range arithSigns {
				if a.Kind != impl.KInt || b.Kind != impl.KInt {
					got, refusal := impl.Arith(op, a, b)
					wantRefused(t, told(op, a, b), got, refusal, "arith")
				}
			}
			for _, op := range append(compareSigns, otherSigns...) {
				got, refusal := impl.Arith(op, a, b)
				wantRefused(t, told(op, a, b), got, refusal, "arith")
			}
		}
	}
}

func TestCompareOfSome(t *testing.T) {
	yes := func(op string, a impl.Value, b impl.Value) {
		t.Helper()
		got, refusal := impl.Compare(op, a, b)
		wantValue(t, told(op, a, b), got, refusal, boolOf(true))
	}
	no := func(op string, a impl.Value, b impl.Value) {
		t.Helper()
		got, refusal := impl.Compare(op, a, b)
		wantValue(t, told(op, a, b), got, refusal, boolOf(false))
	}
	// Each pair is in its order.
	pairs := []impl.Value{
		intOf(1), intOf(2), intOf(-1), intOf(0), intOf(math.MinInt), intOf(math.MaxInt), intOf(-2), intOf(-1), intOf(9), intOf(10),
		textOf(""), textOf("a"), textOf("a"), textOf("ab"), textOf("ab"), textOf("b"), textOf("B"), textOf("a"), textOf("10"), textOf("9"),
		textOf("a\x7f"), textOf("a\x80"), textOf("z"), textOf("\xc3\xa9"), textOf("\x80"), textOf("\xff"), textOf(""), textOf("\x00"), textOf("a"), textOf("a\x00"),
	}
	for i := 0; i < len(pairs); i += 2 {
		a, b := pairs[i], pairs[i+1]
		yes("<", a, b)
		yes("<=", a, b)
		no(">", a, b)
		no(">=", a, b)
		no("==", a, b)
		yes("~=", a, b)
		no("<", b, a)
		no("<=", b, a)
		yes(">", b, a)
		yes(">=", b, a)
		no("==", b, a)
		yes("~=", b, a)
		no("<", a, a)
		yes("<=", a, a)
		no(">", a, a)
		yes(">=", a, a)
		yes("==", a, a)
		no("~=", a, a)
	}
}

func TestCompareOfAll(t *testing.T) {
	all := properValues()
	for i, a := range all {
		for j, b := range all {
			got, refusal := impl.Compare("==", a, b)
			wantValue(t, told("==", a, b), got, refusal, boolOf(i == j))
			got, refusal = impl.Compare("~=", a, b)
			wantValue(t, told("~=", a, b), got, refusal, boolOf(i != j))
		}
	}
	for _, a := range anyValues() {
		for _, b := range anyValues() {
			wantCompared(t, a, b)
		}
	}
}

// wantCompared holds the signs of an order against each other, or asks that all refuse.
func wantCompared(t *testing.T, a impl.Value, b impl.Value) {
	t.Helper()
	ordered := a.Kind == b.Kind && (a.Kind == impl.KInt || a.Kind == impl.KText)
	less := a.Kind == impl.KInt && a.N < b.N || a.Kind == impl.KText && a.S < b.S
	more := a.Kind == impl.KInt && a.N > b.N || a.Kind == impl.KText && a.S > b.S
	want := map[string]bool{"<": less, "<=": !more, ">": more, ">=": !less}
	for _, op := range []string{"<", "<=", ">", ">="} {
		got, refusal := impl.Compare(op, a, b)
		if ordered {
			wantValue(t, told(op, a, b), got, refusal, boolOf(want[op]))
		} else {
			wantRefused(t, told(op, a, b), got, refusal, "compare")
		}
	}
	got, refusal := impl.Compare("==", a, b)
	wantValue(t, told("==", a, b), got, refusal, boolOf(a == b))
	got, refusal = impl.Compare("~=", a, b)
	wantValue(t, told("~=", a, b), got, refusal, boolOf(a != b))
	for _, op := range append(arithSigns, otherSigns...) {
		got, refusal := impl.Compare(op, a, b)
		wantRefused(t, told(op, a, b), got, refusal, "compare")
	}
}

func TestConcat(t *testing.T) {
	rows := []struct {
		a    impl.Value
		b    impl.Value
		want string
	}{
		{textOf("a"), textOf("b"), "ab"}, {textOf(""), textOf(""), ""}, {textOf("a"), textOf(""), "a"}, {textOf(""), textOf("b"), "b"},
		{intOf(1), textOf("x"), "1x"}, {textOf("x"), intOf(-1), "x-1"}, {intOf(1), intOf(2), "12"}, {intOf(0), intOf(0), "00"}, {intOf(-1), intOf(-2), "-1-2"},
		{intOf(math.MinInt), intOf(math.MaxInt), "-92233720368547758089223372036854775807"},
		{textOf("\xc3"), textOf("\xa9\n\""), "é\n\""}, {textOf("\x00"), textOf("\xff"), "\x00\xff"},
	}
	for _, r := range rows {
		got, refusal := impl.Concat(r.a, r.b)
		wantValue(t, told("..", r.a, r.b), got, refusal, textOf(r.want))
	}
	for _, a := range anyValues() {
		for _, b := range anyValues() {
			got, refusal := impl.Concat(a, b)
			joins := (a.Kind == impl.KInt || a.Kind == impl.KText) && (b.Kind == impl.KInt || b.Kind == impl.KText)
			if joins {
				wantValue(t, told("..", a, b), got, refusal, textOf(impl.ShowValue(a)+impl.ShowValue(b)))
			} else {
				wantRefused(t, told("..", a, b), got, refusal, "concat")
			}
		}
	}
}

func TestConcatAtMaxText(t *testing.T) {
	for size := impl.MaxText - 3; size <= impl.MaxText+3; size++ {
		for _, first := range []int{0, 1, size / 2, size - 1, size} {
			a, b := textOf(strings.Repeat("é", size)[:first]), textOf(strings.Repeat("b", size-first))
			got, refusal := impl.Concat(a, b)
			if size <= impl.MaxText {
				wantValue(t, "concat", got, refusal, textOf(a.S+b.S))
			} else {
				wantRefused(t, "concat", got, refusal, "concat")
			}
		}
		got, refusal := impl.Concat(textOf(strings.Repeat("a", size-3)), intOf(-12))
		if size <= impl.MaxText {
			wantValue(t, "with a number", got, refusal, textOf(strings.Repeat("a", size-3)+"-12"))
		} else {
			wantRefused(t, "with a number", got, refusal, "concat")
		}
	}
}

func TestUnary(t *testing.T) {
	h := impl.Heap{Tables: [][]impl.Pair{nil}}
	for _, v := range anyValues() {
		got, refusal := impl.Unary("not", h, v)
		wantValue(t, told("not", v), got, refusal, boolOf(!impl.Truth(v)))
		got, refusal = impl.Unary("-", h, v)
		if v.Kind == impl.KInt {
			wantValue(t, told("-", v), got, refusal, intOf(around(new(big.Int).Neg(big.NewInt(int64(v.N))))))
		} else {
			wantRefused(t, told("-", v), got, refusal, "arith")
		}
		got, refusal = impl.Unary("#", h, v)
		switch {
		case v.Kind == impl.KText:
			wantValue(t, told("#", v), got, refusal, intOf(len(v.S)))
		case v.Kind == impl.KTable && v.N == 0:
			wantValue(t, told("#", v), got, refusal, intOf(0))
		default:
			wantRefused(t, told("#", v), got, refusal, "length")
		}
		for _, op := range append([]string{"+", "*", "==", "<", "Not", "##", "nil"}, otherSigns...) {
			got, refusal := impl.Unary(op, h, v)
			wantRefused(t, told(op, v), got, refusal, "unary")
		}
	}
	for n, want := range map[int]int{5: -5, -5: 5, 0: 0, math.MinInt: math.MinInt, math.MaxInt: math.MinInt + 1} {
		got, refusal := impl.Unary("-", h, intOf(n))
		wantValue(t, told("-", intOf(n)), got, refusal, intOf(want))
	}
	for s, want := range map[string]int{"": 0, "a": 1, "é": 2, "a\n\"": 3, "\x00\xff": 2, strings.Repeat("a", 2001): 2001} {
		got, refusal := impl.Unary("#", h, textOf(s))
		wantValue(t, told("#", textOf(s)), got, refusal, intOf(want))
	}
}

// row is a table's pairs of these keys, each with the value true.
func row(keys ...impl.Value) []impl.Pair {
	var list []impl.Pair
	for _, k := range keys {
		list = append(list, impl.Pair{Key: k, Val: boolOf(true)})
	}
	return list
}

func wantLength(t *testing.T, want int, keys ...impl.Value) {
	t.Helper()
	h := impl.Heap{Tables: [][]impl.Pair{row(intOf(1), intOf(2)), row(keys...), nil}}
	got, refusal := impl.Unary("#", h, tableOf(1))
	wantValue(t, told("#", keys...), got, refusal, intOf(want))
}

func TestLengthOfTables(t *testing.T) {
	wantLength(t, 0)
	wantLength(t, 1, intOf(1))
	wantLength(t, 3, intOf(1), intOf(2), intOf(3))
	wantLength(t, 3, intOf(3), intOf(1), intOf(2))
	wantLength(t, 2, intOf(1), intOf(2), intOf(4))
	wantLength(t, 1, intOf(1), intOf(3), intOf(4), intOf(5))
	wantLength(t, 0, intOf(2), intOf(3))
	wantLength(t, 0, intOf(0), intOf(-1), intOf(2))
	wantLength(t, 2, intOf(0), intOf(-1), intOf(2), intOf(1), intOf(math.MaxInt), intOf(math.MinInt))
	wantLength(t, 0, textOf("1"), boolOf(true), tableOf(1), impl.Value{Kind: impl.KFunc, N: 1}, impl.Value{Kind: impl.KHost, N: 1})
	wantLength(t, 1, textOf("2"), intOf(1), impl.Value{Kind: impl.KTable, N: 2}, boolOf(true))
	wantLength(t, 2, intOf(1), intOf(2), intOf(1), intOf(2), intOf(5))
	var keys []impl.Value
	for n := 200; n > 0; n-- {
		keys = append(keys, intOf(n))
	}
	wantLength(t, 200, keys...)
	wantLength(t, 199, keys[1:]...)
	wantLength(t, 0, keys[:199]...)
	keys[100] = textOf("100")
	wantLength(t, 99, keys...)
	for n := 201; n < 5000; n++ {
		keys = append(keys, intOf(n))
	}
	keys[100] = intOf(100)
	wantLength(t, 4999, keys...)
	for _, h := range []impl.Heap{{}, {Tables: [][]impl.Pair{row(intOf(1))}}} {
		for _, n := range []int{-1, 1, 2, math.MaxInt, math.MinInt} {
			got, refusal := impl.Unary("#", h, tableOf(n))
			wantRefused(t, told("#", tableOf(n)), got, refusal, "length")
		}
	}
}
