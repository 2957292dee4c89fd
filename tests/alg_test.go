package tests

import (
	"math/rand"
	"slices"
	"testing"

	"loop.example/varve/impl"
)

// operation is a function of two tables, and what it makes of a key's texts at
// a point; second looks up any key of the second table there.
type operation struct {
	name string
	call func(a []impl.Row, b []impl.Row) ([]impl.Row, bool)
	text func(key string, first string, second func(key string) string) string
}

func joinText(key string, first string, second func(key string) string) string {
	if first == "" || second(key) == "" {
		return ""
	}
	return first + "+" + second(key)
}

func lessText(key string, first string, second func(key string) string) string {
	if second(key) != "" {
		return ""
	}
	return first
}

func bothText(key string, first string, second func(key string) string) string {
	if second(key) == "" {
		return ""
	}
	return first
}

func eitherText(key string, first string, second func(key string) string) string {
	if first == "" {
		return second(key)
	}
	return first
}

func badText(key string, first string, second func(key string) string) string {
	if first == "" || second(first) != "" {
		return ""
	}
	return first
}

var operations = []operation{
	{"RelJoin", impl.RelJoin, joinText},
	{"RelLess", impl.RelLess, lessText},
	{"RelBoth", impl.RelBoth, bothText},
	{"RelEither", impl.RelEither, eitherText},
	{"RelBad", impl.RelBad, badText},
}

// want is what the operation has to return for valid tables.
func (o operation) want(a []impl.Row, b []impl.Row) ([]impl.Row, bool) {
	var keys []string
	for _, r := range slices.Concat(a, b) {
		keys = append(keys, r.Key)
	}
	slices.Sort(keys)
	list := tableWhere(slices.Compact(keys), func(key string, at int) string {
		return o.text(key, textOf(a, key, at), func(key string) string { return textOf(b, key, at) })
	})
	long := slices.ContainsFunc(list, func(r impl.Row) bool { return len(r.Text) > impl.WordMax })
	if long || len(list) > impl.RowsMax {
		return nil, false
	}
	return list, true
}

func (o operation) check(t *testing.T, a []impl.Row, b []impl.Row) {
	t.Helper()
	want, wantOk := o.want(a, b)
	got, ok := o.call(a, b)
	if ok != wantOk || !slices.Equal(got, want) || !impl.RelOk(got) {
		t.Error(o.name, a, b, "is", got, ok, "not", want, wantOk)
	}
}

// checkAtEachPoint compares snapshots only, so that it says what the promises do.
func (o operation) checkAtEachPoint(t *testing.T, a []impl.Row, b []impl.Row, keys []string) {
	t.Helper()
	got, ok := o.call(a, b)
	if !ok || !impl.RelOk(got) {
		t.Error(o.name, a, b, got, ok)
		return
	}
	for at := 0; at <= impl.TimeMax; at++ {
		var want []impl.Pair
		for _, key := range keys {
			text := o.text(key, impl.RelGet(a, key, at), func(key string) string { return impl.RelGet(b, key, at) })
			if text != "" {
				want = append(want, impl.Pair{Key: key, Text: text})
			}
		}
		if !slices.Equal(impl.RelAt(got, at), want) {
			t.Error(o.name, a, b, "at", at, "is", impl.RelAt(got, at), "not", want)
		}
	}
}

// edgePairs has each of edgeTables beside some of the others. Their rows of one
// key overlap, contain each other, touch and lie apart.
func edgePairs() [][2][]impl.Row {
	tables := edgeTables()
	var list [][2][]impl.Row
	for i, a := range tables {
		for j := i % 13; j < len(tables); j += 13 {
			list = append(list, [2][]impl.Row{a, tables[j]})
		}
	}
	return append(list, [2][]impl.Row{nil, nil})
}

// parentsOf has as keys the texts of the key a, at the same points.
func parentsOf(table []impl.Row) []impl.Row {
	var list []impl.Row
	for _, r := range table {
		if r.Key == "a" {
			list = append(list, impl.Row{Key: r.Text, Text: "p", Span: r.Span})
		}
	}
	return impl.RelOf(list)
}

type tablesCase struct {
	a, b, want []impl.Row
}

func checkCases(t *testing.T, call func(a []impl.Row, b []impl.Row) ([]impl.Row, bool), cases []tablesCase) {
	t.Helper()
	for _, c := range cases {
		got, ok := call(c.a, c.b)
		if !ok || !slices.Equal(got, c.want) {
			t.Error(c.a, c.b, "is", got, ok, "not", c.want)
		}
	}
}

func checkRejected(t *testing.T, call func(a []impl.Row, b []impl.Row) ([]impl.Row, bool), a []impl.Row, b []impl.Row) {
	t.Helper()
	if !impl.RelOk(a) || !impl.RelOk(b) {
		t.Error("not a table", a, b)
	}
	if got, ok := call(a, b); ok || len(got) != 0 {
		t.Error(a, b, "is", got, ok)
	}
}

// P20
func TestTheTemporalJoinIsASnapshotJoin(t *testing.T) {
	for _, p := range edgePairs() {
		operation{"RelJoin", impl.RelJoin, joinText}.checkAtEachPoint(t, p[0], p[1], edgeKeys)
	}
}

func TestRelJoinAtEdges(t *testing.T) {
	whole := rows(row("a", "x", 0, 100))
	checkCases(t, impl.RelJoin, []tablesCase{
		{whole, whole, rows(row("a", "x+x", 0, 100))},
		{whole, rows(row("a", "y", 99, 100)), rows(row("a", "x+y", 99, 100))},
		{whole, rows(row("a", "y", 1, 3), row("a", "z", 3, 5), row("a", "y", 7, 8)), rows(row("a", "x+y", 1, 3), row("a", "x+z", 3, 5), row("a", "x+y", 7, 8))},
		{rows(row("a", "y", 1, 3), row("a", "z", 3, 5)), whole, rows(row("a", "y+x", 1, 3), row("a", "z+x", 3, 5))},
		{rows(row("a", "x", 0, 5)), rows(row("a", "x", 5, 9)), nil},
		{rows(row("a", "x", 0, 5)), rows(row("a", "y", 5, 9)), nil},
		{rows(row("a", "x", 5, 9)), rows(row("a", "x", 0, 5)), nil},
		{rows(row("a", "x", 0, 5)), rows(row("b", "x", 0, 5)), nil},
		{whole, nil, nil},
		{nil, whole, nil},
		{nil, nil, nil},
	})
}

// The same joined Text may come of different Texts; it is one row all the same.
func TestRelJoinCoalescesTheJoinedTexts(t *testing.T) {
	a := rows(row("a", "x", 0, 5), row("a", "x+y", 5, 9))
	b := rows(row("a", "y+z", 0, 5), row("a", "z", 5, 9))
	checkCases(t, impl.RelJoin, []tablesCase{{a, b, rows(row("a", "x+y+z", 0, 9))}})
}

func TestRelJoinOfLongTexts(t *testing.T) {
	four, five := rows(row("a", "abcd", 0, 9)), rows(row("a", "vwxyz", 8, 20))
	checkCases(t, impl.RelJoin, []tablesCase{
		{four, four, rows(row("a", "abcd+abcd", 0, 9))},
		{rows(row("a", "1234567", 0, 9)), rows(row("a", "8", 3, 4)), rows(row("a", "1234567+8", 3, 4))},
		{rows(row("a", "123456789", 0, 9)), rows(row("a", "123456789", 9, 20)), nil},
		{rows(row("a", "123456789", 0, 9)), rows(row("b", "123456789", 0, 9)), nil},
	})
	checkRejected(t, impl.RelJoin, four, five)
	checkRejected(t, impl.RelJoin, five, four)
	checkRejected(t, impl.RelJoin, rows(row("a", "x", 0, 9), row("b", "123456789", 0, 100)), rows(row("a", "x", 0, 9), row("b", "8", 99, 100)))
	checkRejected(t, impl.RelJoin, rows(row("a", "12345678", 0, 1)), rows(row("a", "8", 0, 1)))
}

// P21
func TestTheTemporalDifferenceIsASnapshotDifference(t *testing.T) {
	for _, p := range edgePairs() {
		operation{"RelLess", impl.RelLess, lessText}.checkAtEachPoint(t, p[0], p[1], edgeKeys)
	}
}

func TestRelLessAtEdges(t *testing.T) {
	whole := rows(row("a", "x", 0, 100))
	checkCases(t, impl.RelLess, []tablesCase{
		{whole, whole, nil},
		{whole, rows(row("a", "y", 99, 100)), rows(row("a", "x", 0, 99))},
		{whole, rows(row("a", "y", 0, 99)), rows(row("a", "x", 99, 100))},
		{whole, rows(row("a", "y", 1, 3), row("a", "z", 3, 5), row("a", "y", 7, 8)), rows(row("a", "x", 0, 1), row("a", "x", 5, 7), row("a", "x", 8, 100))},
		{rows(row("a", "y", 1, 3), row("a", "z", 3, 5), row("a", "y", 7, 9)), rows(row("a", "x", 2, 8)), rows(row("a", "y", 1, 2), row("a", "y", 8, 9))},
		{rows(row("a", "x", 0, 5)), rows(row("a", "x", 5, 9)), rows(row("a", "x", 0, 5))},
		{rows(row("a", "x", 5, 9)), rows(row("a", "y", 0, 5)), rows(row("a", "x", 5, 9))},
		{rows(row("a", "x", 0, 5), row("a", "y", 5, 9)), nil, rows(row("a", "x", 0, 5), row("a", "y", 5, 9))},
		{whole, rows(row("b", "x", 0, 50), row("x", "a", 0, 50)), whole},
		{nil, whole, nil},
		{nil, nil, nil},
	})
}

// P22
func TestTheTemporalSemijoinIsASnapshotSemijoin(t *testing.T) {
	for _, p := range edgePairs() {
		operation{"RelBoth", impl.RelBoth, bothText}.checkAtEachPoint(t, p[0], p[1], edgeKeys)
	}
}

func TestRelBothAtEdges(t *testing.T) {
	whole := rows(row("a", "x", 0, 100))
	checkCases(t, impl.RelBoth, []tablesCase{
		{whole, whole, whole},
		{whole, rows(row("a", "y", 99, 100)), rows(row("a", "x", 99, 100))},
		{whole, rows(row("a", "y", 1, 3), row("a", "z", 3, 5), row("a", "y", 7, 8)), rows(row("a", "x", 1, 5), row("a", "x", 7, 8))},
		{rows(row("a", "y", 1, 3), row("a", "z", 3, 5), row("a", "y", 7, 9)), rows(row("a", "x", 2, 8)), rows(row("a", "y", 2, 3), row("a", "z", 3, 5), row("a", "y", 7, 8))},
		{rows(row("a", "x", 0, 5)), rows(row("a", "x", 5, 9)), nil},
		{rows(row("a", "x", 0, 5)), rows(row("a", "y", 5, 9)), nil},
		{whole, rows(row("b", "x", 0, 50), row("x", "a", 0, 50)), nil},
		{whole, nil, nil},
		{nil, whole, nil},
		{nil, nil, nil},
	})
}

// P23
func TestTheTemporalUnionIsASnapshotUnion(t *testing.T) {
	for _, p := range edgePairs() {
		operation{"RelEither", impl.RelEither, eitherText}.checkAtEachPoint(t, p[0], p[1], edgeKeys)
	}
}

func TestRelEitherAtEdges(t *testing.T) {
	whole := rows(row("a", "x", 0, 100))
	checkCases(t, impl.RelEither, []tablesCase{
		{whole, whole, whole},
		{whole, rows(row("a", "y", 20, 100)), whole},
		{rows(row("a", "y", 20, 99)), whole, rows(row("a", "x", 0, 20), row("a", "y", 20, 99), row("a", "x", 99, 100))},
		{rows(row("a", "y", 1, 3), row("a", "z", 3, 5), row("a", "y", 7, 9)), rows(row("a", "x", 2, 8)), rows(row("a", "y", 1, 3), row("a", "z", 3, 5), row("a", "x", 5, 7), row("a", "y", 7, 9))},
		{rows(row("a", "x", 0, 5)), rows(row("a", "x", 5, 9)), rows(row("a", "x", 0, 9))},
		{rows(row("a", "x", 5, 9)), rows(row("a", "x", 0, 5)), rows(row("a", "x", 0, 9))},
		{rows(row("a", "x", 0, 5)), rows(row("a", "y", 5, 9)), rows(row("a", "x", 0, 5), row("a", "y", 5, 9))},
		{rows(row("a", "x", 0, 5)), rows(row("a", "x", 3, 9)), rows(row("a", "x", 0, 9))},
		{rows(row("b", "x", 0, 5)), rows(row("a", "x", 3, 9), row("c", "x", 0, 1)), rows(row("a", "x", 3, 9), row("b", "x", 0, 5), row("c", "x", 0, 1))},
		{whole, nil, whole},
		{nil, whole, whole},
		{nil, nil, nil},
	})
}

// P24
func TestSelectionSelectsByText(t *testing.T) {
	for _, table := range edgeTables() {
		for _, text := range []string{"x", "y", "z", "a", ""} {
			got := impl.RelPick(table, text)
			if !impl.RelOk(got) {
				t.Error("not a table", table, text, got)
			}
			for at := 0; at <= impl.TimeMax; at++ {
				var want []impl.Pair
				for _, p := range impl.RelAt(table, at) {
					if p.Text == text {
						want = append(want, p)
					}
				}
				if !slices.Equal(impl.RelAt(got, at), want) {
					t.Error(table, text, at, got)
				}
			}
		}
	}
}

func TestRelPickAtEdges(t *testing.T) {
	table := rows(row("a", "x", 0, 5), row("a", "y", 5, 9), row("a", "x", 9, 12), row("b", "y", 8, 100), row("x", "z", 1, 2))
	for text, want := range map[string][]impl.Row{
		"x": rows(row("a", "x", 0, 5), row("a", "x", 9, 12)),
		"y": rows(row("a", "y", 5, 9), row("b", "y", 8, 100)),
		"z": rows(row("x", "z", 1, 2)),
		"a": nil, "xx": nil, "": nil, "X": nil, "x ": nil, "1234567890": nil,
	} {
		if got := impl.RelPick(table, text); !slices.Equal(got, want) {
			t.Error(text, got)
		}
	}
	if len(impl.RelPick(nil, "x")) != 0 {
		t.Error("the empty table")
	}
	full := scattered("a", impl.RowsMax)
	if got := impl.RelPick(full, "x"); !slices.Equal(got, full) {
		t.Error("RowsMax rows", got)
	}
}

func checkSteps(t *testing.T, table []impl.Row) {
	t.Helper()
	got := impl.RelCount(table)
	many := make([]int, impl.TimeMax+1)
	for i, s := range got {
		if !impl.SpanOk(s.Span) || s.Many < 1 {
			t.Fatal(table, "has step", s)
		}
		if i > 0 && (s.Span.From < got[i-1].Span.To || s.Span.From == got[i-1].Span.To && s.Many == got[i-1].Many) {
			t.Error(table, "has steps", got[i-1], s)
		}
		for at := s.Span.From; at < s.Span.To; at++ {
			many[at] += s.Many
		}
	}
	for at, n := range many {
		if n != len(impl.RelAt(table, at)) {
			t.Error(table, at, n)
		}
	}
}

// P25
func TestTemporalCountsAreSnapshotCounts(t *testing.T) {
	for _, table := range edgeTables() {
		checkSteps(t, table)
	}
}

func TestRelCountAtEdges(t *testing.T) {
	for _, c := range []struct {
		table []impl.Row
		want  []impl.Step
	}{
		{nil, nil},
		{rows(row("a", "x", 99, 100)), []impl.Step{{Many: 1, Span: span(99, 100)}}},
		{rows(row("a", "x", 0, 5), row("a", "y", 5, 9)), []impl.Step{{Many: 1, Span: span(0, 9)}}},
		{rows(row("a", "x", 0, 5), row("b", "x", 5, 9)), []impl.Step{{Many: 1, Span: span(0, 9)}}},
		{rows(row("a", "x", 5, 9), row("b", "x", 0, 5), row("c", "x", 9, 100)), []impl.Step{{Many: 1, Span: span(0, 100)}}},
		{rows(row("a", "x", 0, 5), row("b", "x", 6, 9)), []impl.Step{{Many: 1, Span: span(0, 5)}, {Many: 1, Span: span(6, 9)}}},
		{rows(row("a", "x", 0, 5), row("a", "x", 98, 100)), []impl.Step{{Many: 1, Span: span(0, 5)}, {Many: 1, Span: span(98, 100)}}},
		{
			rows(row("a", "x", 0, 5), row("b", "x", 0, 9), row("c", "x", 5, 9), row("d", "x", 20, 30), row("e", "y", 20, 30)),
			[]impl.Step{{Many: 2, Span: span(0, 9)}, {Many: 2, Span: span(20, 30)}},
		},
		{
			rows(row("a", "x", 0, 100), row("b", "x", 10, 20), row("c", "x", 20, 30), row("d", "x", 25, 26)),
			[]impl.Step{{Many: 1, Span: span(0, 10)}, {Many: 2, Span: span(10, 25)}, {Many: 3, Span: span(25, 26)}, {Many: 2, Span: span(26, 30)}, {Many: 1, Span: span(30, 100)}},
		},
	} {
		if got := impl.RelCount(c.table); !slices.Equal(got, c.want) {
			t.Error(c.table, "is", got, "not", c.want)
		}
	}
}

// Steps are not rows: RowsMax does not limit them.
func TestRelCountOfAFullTable(t *testing.T) {
	var nested []impl.Row
	for i := range impl.RowsMax {
		nested = append(nested, row(string(rune('a'+i)), "x", i, 100-i))
	}
	got := impl.RelCount(nested)
	if len(got) != 2*impl.RowsMax-1 || got[impl.RowsMax-1] != (impl.Step{Many: impl.RowsMax, Span: span(23, 77)}) {
		t.Error(got)
	}
	checkSteps(t, nested)
	checkSteps(t, scattered("a", impl.RowsMax))
}

// P26
func TestViolationsAreFoundAtEachPoint(t *testing.T) {
	for _, p := range edgePairs() {
		o := operation{"RelBad", impl.RelBad, badText}
		o.checkAtEachPoint(t, p[0], parentsOf(p[1]), edgeKeys)
		o.checkAtEachPoint(t, p[0], p[1], edgeKeys)
	}
}

func TestRelBadAtEdges(t *testing.T) {
	child := rows(row("q", "a", 0, 100))
	checkCases(t, impl.RelBad, []tablesCase{
		{child, rows(row("a", "x", 0, 100)), nil},
		{child, rows(row("a", "x", 0, 50), row("a", "y", 50, 100)), nil},
		{child, rows(row("a", "x", 0, 99)), rows(row("q", "a", 99, 100))},
		{child, rows(row("a", "x", 1, 100)), rows(row("q", "a", 0, 1))},
		{child, rows(row("a", "x", 1, 3), row("a", "y", 3, 5), row("a", "x", 7, 8)), rows(row("q", "a", 0, 1), row("q", "a", 5, 7), row("q", "a", 8, 100))},
		{rows(row("q", "a", 0, 5), row("q", "b", 5, 9), row("r", "a", 3, 7)), rows(row("a", "x", 0, 5), row("b", "x", 5, 9)), rows(row("r", "a", 5, 7))},
		{rows(row("q", "a", 0, 5), row("q", "b", 5, 9)), rows(row("a", "x", 5, 9), row("b", "x", 0, 5)), rows(row("q", "a", 0, 5), row("q", "b", 5, 9))},
		{child, rows(row("q", "a", 0, 100)), child},
		{child, rows(row("aa", "a", 0, 100), row("b", "a", 0, 100)), child},
		{child, nil, child},
		{nil, child, nil},
		{nil, nil, nil},
	})
}

// P27
func TestShiftingCommutesWithTheSemijoin(t *testing.T) {
	for _, p := range edgePairs() {
		both, ok := impl.RelBoth(p[0], p[1])
		if !ok {
			t.Fatal(p)
		}
		for _, by := range []int{-99, -98, -50, -2, -1, 0, 1, 3, 49, 98, 99} {
			got, ok := impl.RelBoth(impl.RelMove(p[0], by), impl.RelMove(p[1], by))
			if !ok || !slices.Equal(got, impl.RelMove(both, by)) {
				t.Error(p, by, got, ok)
			}
		}
	}
}

// split has RowsMax rows of one key that touch, and parts as many that lie
// apart, across the bounds of the first ones: each has to be cut in two.
func split() (touching []impl.Row, parts []impl.Row) {
	for i := range impl.RowsMax {
		touching = append(touching, row("a", []string{"x", "y"}[i%2], 4*i, 4*i+4))
		parts = append(parts, row("a", "z", 4*i+2, 4*i+5))
	}
	return touching, parts
}

func TestAlgebraOfFullTables(t *testing.T) {
	whole, most := rows(row("a", "x", 0, 100)), scattered("a", impl.RowsMax)
	other, later := scattered("b", impl.RowsMax), impl.RelMove(most, 1)
	gaps := func(first int) []impl.Row {
		var list []impl.Row
		for _, r := range most {
			list = append(list, row("a", "x", first+r.Span.From, first+r.Span.From+1))
		}
		list[impl.RowsMax-1].Span.To = 100
		return list
	}
	children := func(list []impl.Row) []impl.Row {
		var all []impl.Row
		for _, r := range list {
			all = append(all, row("q", "a", r.Span.From, r.Span.To))
		}
		return all
	}
	joinedMost := slices.Clone(most)
	for i := range joinedMost {
		joinedMost[i].Text = "x+x"
	}
	checkCases(t, impl.RelJoin, []tablesCase{{most, whole, joinedMost}, {whole, most, joinedMost}, {most, other, nil}})
	checkCases(t, impl.RelBoth, []tablesCase{{most, whole, most}, {whole, most, most}, {most, rows(row("a", "y", 0, 5), row("a", "z", 5, 100)), most}, {most, other, nil}})
	checkCases(t, impl.RelLess, []tablesCase{{whole, most, gaps(3)}, {most, other, most}, {most, whole, nil}})
	checkCases(t, impl.RelEither, []tablesCase{
		{most, whole, whole}, {whole, most, whole}, {most, nil, most}, {nil, most, most}, {most, rows(row("a", "x", 3, 4)), append(rows(row("a", "x", 0, 7)), most[2:]...)},
		{most[:23], other[:1], append(slices.Clone(most[:23]), other[0])},
		{most, rows(row("a", "x", 0, 4)), append(rows(row("a", "x", 0, 7)), most[2:]...)},
	})
	checkCases(t, impl.RelBad, []tablesCase{{children(whole), most, children(gaps(3))}, {most, nil, most}})

	touching, parts := split()
	checkRejected(t, impl.RelJoin, most, rows(row("a", "y", 0, 5), row("a", "z", 5, 100)))
	checkRejected(t, impl.RelJoin, touching, parts)
	checkRejected(t, impl.RelBoth, most, rows(row("a", "y", 0, 5), row("a", "y", 6, 100)))
	checkRejected(t, impl.RelBoth, touching, parts)
	checkRejected(t, impl.RelLess, whole, later)
	checkRejected(t, impl.RelLess, most, rows(row("a", "y", 5, 6)))
	checkRejected(t, impl.RelEither, most, other[:1])
	checkRejected(t, impl.RelEither, other[:1], most)
	checkRejected(t, impl.RelEither, most, rows(row("a", "y", 3, 4)))
	checkRejected(t, impl.RelEither, most, other)
	checkRejected(t, impl.RelBad, children(whole), later)
	checkRejected(t, impl.RelBad, most, rows(row("x", "y", 5, 6)))
}

// someTable is a table of up to many rows whose keys are also Texts, some of
// them too long to be joined.
func someTable(source *rand.Rand, many int) []impl.Row {
	words := []string{"a", "b", "x", "x+x", "+", "abcdefg"}
	var list []impl.Row
	for range source.Intn(many + 1) {
		from := source.Intn(100)
		r := row(words[source.Intn(3)], words[source.Intn(5+source.Intn(2))], from, min(100, from+1+source.Intn(100/many)))
		if next := impl.RelOf(append(slices.Clone(list), r)); len(next) > 0 {
			list = next
		}
	}
	return list
}

func TestAlgebraOfSomeTables(t *testing.T) {
	source := rand.New(rand.NewSource(4))
	for i := range 3000 {
		a, b := someTable(source, 2+i%40), someTable(source, 2+source.Intn(40))
		for _, o := range operations {
			o.check(t, a, b)
		}
		checkSteps(t, a)
		if got, want := impl.RelPick(a, "x"), tableWhere([]string{"a", "b", "x"}, func(key string, at int) string {
			if textOf(a, key, at) != "x" {
				return ""
			}
			return "x"
		}); !slices.Equal(got, want) {
			t.Error("RelPick", a, got)
		}
	}
}

func TestAlgebraRejectsBadTables(t *testing.T) {
	for _, table := range badTables() {
		for _, other := range [][]impl.Row{nil, rows(row("a", "x", 0, 100)), rows(row("q", "y", 70, 80)), table} {
			for _, o := range operations {
				if got, ok := o.call(table, other); ok || len(got) != 0 {
					t.Error(o.name, table, other, got, ok)
				}
				if got, ok := o.call(other, table); ok || len(got) != 0 {
					t.Error(o.name, other, table, got, ok)
				}
			}
		}
		for _, text := range []string{"x", "y", "a", ""} {
			if len(impl.RelPick(table, text)) != 0 {
				t.Error("RelPick", table, text)
			}
		}
		if len(impl.RelCount(table)) != 0 {
			t.Error("RelCount", table)
		}
	}
}

func TestAlgebraResultsShareNoMemory(t *testing.T) {
	calls := slices.Clone(operations)
	calls = append(calls,
		operation{name: "RelPick", call: func(a []impl.Row, _ []impl.Row) ([]impl.Row, bool) { return impl.RelPick(a, "x"), true }},
		operation{name: "RelCount", call: func(a []impl.Row, _ []impl.Row) ([]impl.Row, bool) {
			steps := impl.RelCount(a)
			return nil, len(steps) > 0
		}})
	for _, o := range calls {
		for _, second := range [][]impl.Row{nil, rows(row("a", "x", 1, 9)), rows(row("a", "y", 3, 5), row("b", "y", 2, 3)), rows(row("b", "y", 20, 30), row("a", "y", 3, 5))} {
			a, b := roomyRows(rows(row("a", "x", 1, 9), row("a", "x", 20, 30), row("b", "y", 1, 9))), roomyRows(second)
			wholeA, wholeB := slices.Clone(a[:cap(a)]), slices.Clone(b[:cap(b)])
			for _, pair := range [][2][]impl.Row{{a, b}, {b, a}, {a, a}} {
				got, _ := o.call(pair[0], pair[1])
				for i := range got[:cap(got)] {
					got[:cap(got)][i] = row("q", "q", 77, 88)
				}
				if !slices.Equal(a[:cap(a)], wholeA) || !slices.Equal(b[:cap(b)], wholeB) {
					t.Error(o.name, a, b)
				}
			}
		}
	}
}
