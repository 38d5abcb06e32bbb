package tests

import (
	"math"
	"slices"
	"strconv"
	"strings"
	"testing"
	"unsafe"

	"loop.example/g00258/impl"
)

func pairOf(k impl.Value, v impl.Value) impl.Pair { return impl.Pair{Key: k, Val: v} }

func heapText(h impl.Heap) string {
	var lines []string
	for _, pairs := range h.Tables {
		lines = append(lines, "table")
		for _, p := range pairs {
			lines = append(lines, told("pair", p.Key, p.Val))
		}
	}
	for _, v := range h.Cells {
		lines = append(lines, told("cell", v))
	}
	return strings.Join(lines, "\n")
}

func cloneHeap(h impl.Heap) impl.Heap {
	var out impl.Heap
	for _, pairs := range h.Tables {
		out.Tables = append(out.Tables, slices.Clone(pairs))
	}
	out.Cells = slices.Clone(h.Cells)
	return out
}

var behind = impl.Value{Kind: impl.KText, S: "behind"}

// roomy puts what can be known again into spare room behind each list of a copy.
func roomy(h impl.Heap) impl.Heap {
	var out impl.Heap
	for _, pairs := range h.Tables {
		list := append(slices.Clone(pairs), pairOf(behind, behind), pairOf(behind, behind))
		out.Tables = append(out.Tables, list[:len(pairs)])
	}
	count := len(out.Tables)
	out.Tables = append(out.Tables, []impl.Pair{pairOf(behind, behind)}, []impl.Pair{pairOf(behind, behind)})[:count]
	out.Cells = append(slices.Clone(h.Cells), behind, behind)[:len(h.Cells)]
	return out
}

func roomIsKept(h impl.Heap) bool {
	kept := []impl.Pair{pairOf(behind, behind), pairOf(behind, behind)}
	for _, pairs := range h.Tables {
		if !slices.Equal(pairs[len(pairs):len(pairs)+2], kept) {
			return false
		}
	}
	for _, pairs := range h.Tables[len(h.Tables) : len(h.Tables)+2] {
		if !slices.Equal(pairs, kept[:1]) {
			return false
		}
	}
	return slices.Equal(h.Cells[len(h.Cells):len(h.Cells)+2], []impl.Value{behind, behind})
}

// textPlaces tells where the bytes of texts stand, those of a heap and others.
func textPlaces(h impl.Heap, values ...impl.Value) map[*byte]int {
	places := map[*byte]int{}
	add := func(v impl.Value) {
		if v.S != "" {
			places[unsafe.StringData(v.S)]++
		}
	}
	for _, v := range values {
		add(v)
	}
	for _, pairs := range h.Tables {
		for _, p := range pairs {
			add(p.Key)
			add(p.Val)
		}
	}
	for _, v := range h.Cells {
		add(v)
	}
	return places
}

func spoilHeap(h impl.Heap) {
	odd := impl.Value{Kind: -5, S: "spoilt"}
	for i, pairs := range h.Tables {
		for j := range pairs {
			pairs[j] = pairOf(odd, odd)
		}
		for j := range pairs[len(pairs):cap(pairs)] {
			pairs[:cap(pairs)][len(pairs)+j] = pairOf(odd, odd)
		}
		h.Tables[i] = nil
	}
	for i := range h.Cells {
		h.Cells[i] = odd
	}
	_ = append(h.Cells, odd)
	_ = append(h.Tables, []impl.Pair{pairOf(odd, odd)})
}

// wantApart asks that an answer shares nothing with what was handed in, nor one of its lists with another one.
func wantApart(t *testing.T, given impl.Heap, answer impl.Heap, values ...impl.Value) {
	t.Helper()
	places := textPlaces(given, values...)
	for p, count := range textPlaces(answer) {
		if places[p] > 0 || count > 1 {
			t.Fatal("a text's bytes are shared")
		}
	}
	want, wantGiven := heapText(answer), heapText(given)
	for _, pairs := range answer.Tables {
		_ = append(pairs, pairOf(behind, behind))
	}
	_ = append(answer.Tables, row(behind))
	_ = append(answer.Cells, behind)
	if heapText(answer) != want {
		t.Fatal("two lists of an answer share memory")
	}
	spoilHeap(answer)
	if heapText(given) != wantGiven {
		t.Fatal("an answer shares memory with an argument")
	}
}

// handled asks for an answer twice: of a heap with room behind its lists, which must stay as it is, and of another one.
func handled(t *testing.T, h impl.Heap, values []impl.Value, ask func(h impl.Heap) impl.Heap) impl.Heap {
	t.Helper()
	given := roomy(h)
	answer := ask(given)
	if heapText(given) != heapText(h) || !roomIsKept(given) {
		t.Fatal("written into an argument")
	}
	want := heapText(answer)
	wantApart(t, given, answer, values...)
	again := ask(h)
	if heapText(again) != want {
		t.Fatal("the same question, another answer")
	}
	return again
}

func setAt(t *testing.T, h impl.Heap, tab impl.Value, k impl.Value, v impl.Value) (impl.Heap, string) {
	t.Helper()
	var refusal string
	answer := handled(t, h, []impl.Value{tab, k, v}, func(h impl.Heap) impl.Heap {
		var answer impl.Heap
		answer, refusal = impl.SetAt(h, tab, k, v)
		return answer
	})
	return answer, refusal
}

func wantHeap(t *testing.T, what string, got impl.Heap, want impl.Heap) {
	t.Helper()
	if heapText(got) != heapText(want) {
		t.Fatalf("%s: got\n%s\nwant\n%s", what, heapText(got), heapText(want))
	}
}

// wantSet asks for the heap whose table n has these pairs and is h in all else.
func wantSet(t *testing.T, h impl.Heap, n int, k impl.Value, v impl.Value, pairs ...impl.Pair) impl.Heap {
	t.Helper()
	got, refusal := setAt(t, h, tableOf(n), k, v)
	want := cloneHeap(h)
	want.Tables[n] = pairs
	what := told("SetAt", tableOf(n), k, v)
	if refusal != "" {
		t.Fatal(what, refusal)
	}
	wantHeap(t, what, got, want)
	return got
}

func wantNotSet(t *testing.T, h impl.Heap, tab impl.Value, k impl.Value, v impl.Value) {
	t.Helper()
	got, refusal := setAt(t, h, tab, k, v)
	what := told("SetAt", tab, k, v)
	if refusal != "index" {
		t.Fatalf("%s: %q", what, refusal)
	}
	wantHeap(t, what, got, h)
}

func wantAt(t *testing.T, h impl.Heap, tab impl.Value, k impl.Value, want impl.Value) {
	t.Helper()
	given := roomy(h)
	got, refusal := impl.GetAt(given, tab, k)
	wantValue(t, told("GetAt", tab, k), got, refusal, want)
	if heapText(given) != heapText(h) || !roomIsKept(given) {
		t.Fatal("written into an argument")
	}
	if got.S != "" && (textPlaces(h)[unsafe.StringData(got.S)] > 0 || sharesBytes(got.S, tab.S) || sharesBytes(got.S, k.S)) {
		t.Fatal("a text's bytes are shared:", told("GetAt", tab, k))
	}
}

// sharesBytes asks whether a text stands somewhere within the bytes of another one.
func sharesBytes(part string, whole string) bool {
	for i := range len(whole) {
		if unsafe.StringData(whole[i:]) == unsafe.StringData(part) {
			return true
		}
	}
	return false
}

func someHeap() impl.Heap {
	return impl.Heap{
		Tables: [][]impl.Pair{
			{pairOf(textOf("name"), textOf("zero")), pairOf(intOf(1), tableOf(1))},
			{pairOf(intOf(2), textOf("two")), pairOf(textOf("2"), boolOf(false)), pairOf(intOf(1), textOf("one")), pairOf(boolOf(true), intOf(7))},
			nil,
		},
		Cells: []impl.Value{textOf("cell"), {}, tableOf(2), intOf(-1)},
	}
}

func TestGetAtOfATable(t *testing.T) {
	h := someHeap()
	wantAt(t, h, tableOf(1), intOf(2), textOf("two"))
	wantAt(t, h, tableOf(1), textOf("2"), boolOf(false))
	wantAt(t, h, tableOf(1), intOf(1), textOf("one"))
	wantAt(t, h, tableOf(1), boolOf(true), intOf(7))
	wantAt(t, h, tableOf(0), intOf(1), tableOf(1))
	wantAt(t, h, tableOf(0), textOf("name"), textOf("zero"))
	for _, k := range []impl.Value{{}, intOf(0), intOf(3), textOf("1"), textOf(""), boolOf(false), tableOf(1), {Kind: impl.KFunc, N: 1}, {Kind: impl.KHost, N: 1}, {Kind: 9, N: 1}} {
		wantAt(t, h, tableOf(1), k, impl.Value{})
		wantAt(t, h, tableOf(2), k, impl.Value{})
	}
}

func TestGetAtOfAText(t *testing.T) {
	for _, s := range []string{"", "a", "abc", "é\n\x00\xff", strings.Repeat("xyz", 700)} {
		for n := -2; n <= len(s)+2; n++ {
			want := impl.Value{}
			if n >= 1 && n <= len(s) {
				want = textOf(string([]byte{s[n-1]}))
			}
			wantAt(t, someHeap(), textOf(s), intOf(n), want)
		}
		for _, k := range anyValues() {
			if k.Kind != impl.KInt || k.N > len(s) || k.N < 1 {
				wantAt(t, someHeap(), textOf(s), k, impl.Value{})
			}
		}
	}
}

func TestGetAtRefuses(t *testing.T) {
	h := someHeap()
	for _, tab := range anyValues() {
		if tab.Kind == impl.KText || tab.Kind == impl.KTable && tab.N >= 0 && tab.N < 3 {
			continue
		}
		for _, k := range anyValues() {
			got, refusal := impl.GetAt(h, tab, k)
			wantRefused(t, told("GetAt", tab, k), got, refusal, "index")
		}
	}
	for _, n := range []int{-1, 3, 4, math.MaxInt, math.MinInt} {
		got, refusal := impl.GetAt(h, tableOf(n), intOf(1))
		wantRefused(t, "no such table", got, refusal, "index")
	}
	got, refusal := impl.GetAt(impl.Heap{}, tableOf(0), intOf(1))
	wantRefused(t, "no table at all", got, refusal, "index")
}

func TestSetAt(t *testing.T) {
	h := someHeap()
	first := h.Tables[1]
	end := pairOf(textOf("new"), textOf("last"))
	wantSet(t, h, 1, end.Key, end.Val, append(slices.Clone(first), end)...)
	wantSet(t, h, 1, textOf("2"), intOf(9), first[0], pairOf(textOf("2"), intOf(9)), first[2], first[3])
	wantSet(t, h, 1, intOf(2), boolOf(false), pairOf(intOf(2), boolOf(false)), first[1], first[2], first[3])
	wantSet(t, h, 1, boolOf(true), textOf("x"), first[0], first[1], first[2], pairOf(boolOf(true), textOf("x")))
	wantSet(t, h, 1, intOf(2), impl.Value{}, first[1], first[2], first[3])
	wantSet(t, h, 1, intOf(1), impl.Value{}, first[0], first[1], first[3])
	wantSet(t, h, 1, boolOf(true), impl.Value{}, first[0], first[1], first[2])
	wantSet(t, h, 1, intOf(3), impl.Value{}, first...)
	wantSet(t, h, 2, intOf(3), impl.Value{})
	g := wantSet(t, h, 2, tableOf(2), tableOf(2), pairOf(tableOf(2), tableOf(2)))
	wantSet(t, g, 2, tableOf(2), impl.Value{})
	// A key that went and comes again stands behind the others.
	g = wantSet(t, h, 1, intOf(2), impl.Value{}, first[1:]...)
	wantSet(t, g, 1, intOf(2), textOf("two"), first[1], first[2], first[3], first[0])
	for _, k := range properValues()[1:] {
		want := pairOf(k, textOf("v"))
		wantSet(t, h, 2, k, want.Val, want)
	}
}

func TestSetAtRefuses(t *testing.T) {
	h := someHeap()
	for _, v := range []impl.Value{{}, boolOf(true), textOf("v")} {
		wantNotSet(t, h, tableOf(1), impl.Value{}, v)
		wantNotSet(t, impl.Heap{}, tableOf(0), intOf(1), v)
		for _, tab := range anyValues() {
			if tab.Kind != impl.KTable || tab.N < 0 || tab.N > 2 {
				wantNotSet(t, h, tab, intOf(1), v)
				wantNotSet(t, h, tab, impl.Value{}, v)
			}
		}
		for _, n := range []int{-1, 3, math.MaxInt, math.MinInt} {
			wantNotSet(t, h, tableOf(n), intOf(1), v)
		}
	}
}

// longTable has so many pairs, of the numbers from 1 on.
func longTable(count int) []impl.Pair {
	var list []impl.Pair
	for n := range count {
		list = append(list, pairOf(intOf(n+1), textOf("v"+strconv.Itoa(n))))
	}
	return list
}

func TestSetAtTwoHundredPairs(t *testing.T) {
	full := longTable(200)
	h := impl.Heap{Tables: [][]impl.Pair{longTable(3), full, nil}, Cells: []impl.Value{textOf("c")}}
	wantNotSet(t, h, tableOf(1), intOf(201), textOf("x"))
	wantNotSet(t, h, tableOf(1), textOf("1"), textOf("x"))
	changed := slices.Clone(full)
	changed[99].Val = textOf("x")
	wantSet(t, h, 1, intOf(100), textOf("x"), changed...)
	wantSet(t, h, 1, intOf(201), impl.Value{}, full...)
	g := wantSet(t, h, 1, intOf(1), impl.Value{}, full[1:]...)
	last := pairOf(textOf("1"), textOf("x"))
	g = wantSet(t, g, 1, last.Key, last.Val, append(slices.Clone(full[1:]), last)...)
	wantNotSet(t, g, tableOf(1), intOf(1), textOf("x"))
}

// A table that the chapter does not want has as many pairs behind it as the words say, or is refused.
func TestSetAtTooManyPairs(t *testing.T) {
	long := longTable(201)
	h := impl.Heap{Tables: [][]impl.Pair{long, longTable(205)}}
	wantNotSet(t, h, tableOf(0), intOf(5), textOf("x"))
	wantNotSet(t, h, tableOf(0), intOf(500), textOf("x"))
	wantNotSet(t, h, tableOf(0), intOf(500), impl.Value{})
	wantSet(t, h, 0, intOf(1), impl.Value{}, long[1:]...)
	wantSet(t, h, 0, intOf(201), impl.Value{}, long[:200]...)
	wantNotSet(t, h, tableOf(1), intOf(5), impl.Value{})
	wantAt(t, h, tableOf(0), intOf(201), textOf("v200"))
	wantAt(t, h, tableOf(1), intOf(205), textOf("v204"))
}

func TestNewTable(t *testing.T) {
	for _, count := range []int{0, 1, 3, 498, 499, 500, 501, 700} {
		h := impl.Heap{Cells: []impl.Value{textOf("c"), intOf(1)}}
		for n := range count {
			h.Tables = append(h.Tables, longTable(n%3))
		}
		var made impl.Value
		got := handled(t, h, nil, func(h impl.Heap) impl.Heap {
			var answer impl.Heap
			answer, made = impl.NewTable(h)
			return answer
		})
		want, wantMade := cloneHeap(h), impl.Value{}
		if count < 500 {
			want.Tables, wantMade = append(want.Tables, nil), tableOf(count)
		}
		wantHeap(t, "NewTable", got, want)
		if made != wantMade {
			t.Error("with", count, "tables:", told("", made))
		}
	}
}

func TestNewCell(t *testing.T) {
	for _, count := range []int{0, 1, 5, impl.MaxCells - 2, impl.MaxCells - 1, impl.MaxCells, impl.MaxCells + 1, impl.MaxCells + 100} {
		h := impl.Heap{Tables: [][]impl.Pair{longTable(2), nil}}
		for n := range count {
			h.Cells = append(h.Cells, intOf(n))
		}
		for _, v := range []impl.Value{{}, textOf("new"), tableOf(1), {Kind: 9, N: 1, S: "odd"}} {
			made := 0
			got := handled(t, h, []impl.Value{v}, func(h impl.Heap) impl.Heap {
				var answer impl.Heap
				answer, made = impl.NewCell(h, v)
				return answer
			})
			want, wantMade := cloneHeap(h), -1
			if count < impl.MaxCells {
				want.Cells, wantMade = append(want.Cells, v), count
			}
			wantHeap(t, "NewCell", got, want)
			if made != wantMade {
				t.Error("with", count, "cells:", made)
			}
		}
	}
}

func TestTablesAndCellsOneByOne(t *testing.T) {
	h := impl.Heap{}
	for n := range 502 {
		more, made := impl.NewTable(h)
		if n < 500 && made != tableOf(n) || n >= 500 && made != (impl.Value{}) || len(more.Tables) != min(n+1, 500) {
			t.Fatal("table", n, made, len(more.Tables))
		}
		h = more
	}
	for n := range 30 {
		more, made := impl.NewCell(h, intOf(n))
		if made != n || len(more.Cells) != n+1 || more.Cells[n] != intOf(n) || len(more.Tables) != 500 {
			t.Fatal("cell", n, made)
		}
		h = more
	}
}

// heapModel keeps tables as words of their keys, beside the order in which these came.
type heapModel struct {
	order [][]impl.Value
	has   []map[impl.Value]impl.Value
	cells []impl.Value
}

func (m *heapModel) set(n int, k impl.Value, v impl.Value) string {
	_, there := m.has[n][k]
	switch {
	case k == impl.Value{}:
		return "index"
	case v == impl.Value{}:
		delete(m.has[n], k)
		m.order[n] = slices.DeleteFunc(m.order[n], func(x impl.Value) bool { return x == k })
		return ""
	case !there && len(m.order[n]) == 200:
		return "index"
	case !there:
		m.order[n] = append(m.order[n], k)
	}
	m.has[n][k] = v
	return ""
}

func (m *heapModel) heap() impl.Heap {
	h := impl.Heap{Cells: m.cells}
	for n, keys := range m.order {
		var list []impl.Pair
		for _, k := range keys {
			list = append(list, pairOf(k, m.has[n][k]))
		}
		h.Tables = append(h.Tables, list)
	}
	return h
}

func (m *heapModel) length(n int) int {
	count := 0
	for m.has[n][intOf(count+1)] != (impl.Value{}) {
		count++
	}
	return count
}

// Promise 3, its second half: what is put into a table is there, and nothing else is changed.
func TestHeapsStepByStep(t *testing.T) {
	t.Parallel()
	d := dice{seed: 32}
	values := properValues()
	for round := range 8 {
		h, m := impl.Heap{}, heapModel{}
		for range 250 {
			n := d.below(len(m.order) + 1)
			k, v := values[d.below(len(values))], values[d.below(len(values))]
			if round%2 == 0 {
				k = intOf(d.below(230))
			}
			switch roll := d.below(20); {
			case roll == 0 || len(m.order) == 0:
				h, _ = impl.NewTable(h)
				m.order, m.has = append(m.order, nil), append(m.has, map[impl.Value]impl.Value{})
			case roll == 1:
				h, _ = impl.NewCell(h, v)
				m.cells = append(m.cells, v)
			case n < len(m.order):
				stepAndAsk(t, &h, &m, n, k, v)
			}
			wantHeap(t, "step by step", h, m.heap())
		}
	}
}

func stepAndAsk(t *testing.T, h *impl.Heap, m *heapModel, n int, k impl.Value, v impl.Value) {
	t.Helper()
	want := m.set(n, k, v)
	more, refusal := setAt(t, *h, tableOf(n), k, v)
	if refusal != want {
		t.Fatalf("%s: %q, want %q", told("SetAt", tableOf(n), k, v), refusal, want)
	}
	*h = more
	wantAt(t, *h, tableOf(n), k, m.has[n][k])
	if refusal == "" {
		wantAt(t, *h, tableOf(n), k, v)
	}
	got, refusal := impl.Unary("#", *h, tableOf(n))
	wantValue(t, "length", got, refusal, intOf(m.length(n)))
}

func TestTablesFilledUp(t *testing.T) {
	t.Parallel()
	h := impl.Heap{Tables: [][]impl.Pair{nil, longTable(2)}}
	m := heapModel{order: [][]impl.Value{nil, {intOf(1), intOf(2)}}, has: []map[impl.Value]impl.Value{{}, {intOf(1): textOf("v0"), intOf(2): textOf("v1")}}}
	for n := range 203 {
		stepAndAsk(t, &h, &m, 0, intOf(203-n), textOf("x"))
	}
	for n := range 203 {
		stepAndAsk(t, &h, &m, 0, intOf(n), impl.Value{})
		stepAndAsk(t, &h, &m, 0, textOf(strconv.Itoa(n)), boolOf(false))
	}
	wantHeap(t, "filled up", h, m.heap())
}

// anyHeap has keys that stand twice, keys and values that are nil, and values that the chapter does not want.
func (d *dice) anyHeap(values []impl.Value) impl.Heap {
	var h impl.Heap
	for range d.below(4) {
		var list []impl.Pair
		count := d.below(8)
		if d.below(20) == 0 {
			count = 198 + d.below(8)
		}
		for range count {
			list = append(list, pairOf(values[d.below(len(values))], values[d.below(len(values))]))
		}
		h.Tables = append(h.Tables, list)
	}
	for range d.below(4) {
		h.Cells = append(h.Cells, values[d.below(len(values))])
	}
	return h
}

// otherPairs are those of another key.
func otherPairs(pairs []impl.Pair, k impl.Value) []impl.Pair {
	var list []impl.Pair
	for _, p := range pairs {
		if p.Key != k {
			list = append(list, p)
		}
	}
	return list
}

// Promise 13, for this chapter: heaps and values of any make are answered, and nothing is written into them.
func TestAnyHeaps(t *testing.T) {
	t.Parallel()
	d := dice{seed: 33}
	pools := [][]impl.Value{anyValues(), {{}, intOf(1), intOf(2), textOf("a"), {Kind: impl.KInt, N: 1, S: "x"}}}
	for round := range 6000 {
		values := pools[round%2]
		h := d.anyHeap(values)
		pick := func() impl.Value { return values[d.below(len(values))] }
		tab, k, v := tableOf(d.below(6)-1), pick(), pick()
		if d.below(5) == 0 {
			tab = pick()
		}
		wantAnySet(t, h, tab, k, v)
		wantAnyTold(t, h, tab, k)
		handled(t, h, nil, func(h impl.Heap) impl.Heap { more, _ := impl.NewTable(h); return more })
		handled(t, h, []impl.Value{v}, func(h impl.Heap) impl.Heap { more, _ := impl.NewCell(h, v); return more })
	}
}

// wantAnyTold asks what is at a key, and how long a table is.
func wantAnyTold(t *testing.T, h impl.Heap, tab impl.Value, k impl.Value) {
	t.Helper()
	given := roomy(h)
	at, atRefusal := impl.GetAt(given, tab, k)
	length, lengthRefusal := impl.Unary("#", given, tab)
	if heapText(given) != heapText(h) || !roomIsKept(given) {
		t.Fatal("written into an argument")
	}
	if tab.Kind == impl.KText {
		return
	}
	what := told("", tab, k) + " of\n" + heapText(h)
	if tab.Kind != impl.KTable || tab.N < 0 || tab.N >= len(h.Tables) {
		wantRefused(t, what, at, atRefusal, "index")
		wantRefused(t, what, length, lengthRefusal, "length")
		return
	}
	pairs := h.Tables[tab.N]
	has := func(p impl.Pair) bool { return slices.Contains(pairs, p) }
	if atRefusal != "" || !has(pairOf(k, at)) && (at != impl.Value{} || len(otherPairs(pairs, k)) != len(pairs)) {
		t.Fatalf("%s: %v %q", what, at, atRefusal)
	}
	row := 0
	for len(otherPairs(pairs, intOf(row+1))) != len(pairs) {
		row++
	}
	wantValue(t, what, length, lengthRefusal, intOf(row))
}

func wantAnySet(t *testing.T, h impl.Heap, tab impl.Value, k impl.Value, v impl.Value) {
	t.Helper()
	what := told("SetAt", tab, k, v) + " of\n" + heapText(h)
	got, refusal := setAt(t, h, tab, k, v)
	there := tab.Kind == impl.KTable && tab.N >= 0 && tab.N < len(h.Tables)
	if !there || k.Kind == impl.KNil {
		if refusal != "index" {
			t.Fatalf("%s: %q", what, refusal)
		}
	}
	if refusal != "" {
		wantHeap(t, what, got, h)
		return
	}
	n := tab.N
	if len(got.Tables[n]) > 200 {
		t.Fatal("too many pairs:", what)
	}
	if !slices.Equal(otherPairs(got.Tables[n], k), otherPairs(h.Tables[n], k)) {
		t.Fatal("a pair of another key is changed:", what)
	}
	if v.Kind == impl.KNil {
		v = impl.Value{}
	}
	at, refusal := impl.GetAt(got, tab, k)
	wantValue(t, what, at, refusal, v)
	want := cloneHeap(h)
	want.Tables[n] = got.Tables[n]
	wantHeap(t, what, got, want)
}

// Texts that are answered have bytes of their own.
func TestTextsAreNewMemory(t *testing.T) {
	long := textOf(strings.Repeat("long", 20))
	if sharesBytes(impl.ShowValue(long), long.S) {
		t.Error("ShowValue shares memory")
	}
	for _, other := range []impl.Value{textOf(""), textOf("a"), intOf(1)} {
		first, _ := impl.Concat(long, other)
		second, _ := impl.Concat(other, long)
		if sharesBytes(first.S, long.S) || sharesBytes(second.S, long.S) {
			t.Error("Concat shares memory")
		}
	}
	h := impl.Heap{Tables: [][]impl.Pair{{pairOf(long, long)}}}
	wantAt(t, h, tableOf(0), long, long)
	wantAt(t, h, long, intOf(3), textOf("n"))
}
