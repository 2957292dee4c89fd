package tests

import (
	"cmp"
	"math"
	"math/rand"
	"slices"
	"testing"

	"loop.example/varve/impl"
)

func byFrom(list []impl.Row) []impl.Row {
	return slices.SortedStableFunc(slices.Values(list), func(a impl.Row, b impl.Row) int {
		return cmp.Or(cmp.Compare(a.Span.From, b.Span.From), cmp.Compare(a.Key, b.Key))
	})
}

func byKey(list []impl.Row) []impl.Row {
	return slices.SortedStableFunc(slices.Values(list), func(a impl.Row, b impl.Row) int {
		return cmp.Or(cmp.Compare(a.Key, b.Key), cmp.Compare(a.Span.From, b.Span.From))
	})
}

// nodesOf is the list that the document describes, of rows as they come.
func nodesOf(list []impl.Row) []impl.Node {
	if len(list) == 0 {
		return nil
	}
	last := list[0].Span.To
	for _, r := range list {
		last = max(last, r.Span.To)
	}
	half := len(list) / 2
	nodes := []impl.Node{{Row: list[half], Left: half, Last: last}}
	nodes = append(nodes, nodesOf(list[:half])...)
	return append(nodes, nodesOf(list[half+1:])...)
}

func rowsOf(x []impl.Node) []impl.Row {
	var list []impl.Row
	for _, n := range x {
		list = append(list, n.Row)
	}
	return list
}

// looksAt counts the nodes that the document says are examined.
func looksAt(x []impl.Node, s impl.Span) int {
	if len(x) == 0 || x[0].Last <= s.From {
		return 0
	}
	looks := 1 + looksAt(x[1:1+x[0].Left], s)
	if x[0].Row.Span.From < s.To {
		looks += looksAt(x[1+x[0].Left:], s)
	}
	return looks
}

// indexTables have none, one, two and up to RowsMax rows, of one key and of
// many, with the same From, with the same To, and within each other.
func indexTables() [][]impl.Row {
	var same, nested, ends, keys []impl.Row
	for i := range impl.RowsMax {
		key := string(rune('a' + i))
		same = append(same, row(key, "x", 10, 11+(i*7)%24))
		nested = append(nested, row(key, "x", 2*i, 100-2*i))
		ends = append(ends, row(key, "x", (i*5)%24, 50))
		keys = append(keys, row(key, "x", 4*(23-i), 4*(23-i)+6-i%5))
	}
	list := [][]impl.Row{
		nil,
		rows(row("a", "x", 5, 9)), rows(row("a", "x", 0, 1)), rows(row("a", "x", 99, 100)), rows(row("a", "x", 0, 100)),
		rows(row("a", "x", 0, 5), row("a", "x", 7, 9)), rows(row("a", "x", 0, 5), row("a", "y", 5, 9)),
		rows(row("a", "x", 5, 9), row("b", "x", 0, 3)), rows(row("a", "x", 5, 9), row("b", "x", 5, 6)), rows(row("a", "x", 5, 6), row("b", "x", 5, 9)),
		rows(row("a", "x", 0, 5), row("b", "x", 2, 3), row("c", "x", 4, 20)),
		rows(row("a", "x", 0, 100), row("b", "x", 1, 2), row("c", "x", 3, 4)),
		rows(row("a", "x", 50, 51), row("b", "x", 20, 30), row("c", "x", 20, 30), row("d", "x", 20, 21)),
		scattered("a", impl.RowsMax), keys,
	}
	for many := range impl.RowsMax + 1 {
		list = append(list, same[:many], nested[:many], ends[:many])
	}
	source := rand.New(rand.NewSource(8))
	for i := range 200 {
		list = append(list, someTable(source, 2+i%40))
	}
	return append(list, edgeTables()...)
}

// P47
func TestAnIndexContainsTheRowsOfItsTable(t *testing.T) {
	for _, table := range indexTables() {
		x := impl.IndexOf(table)
		if want := nodesOf(byFrom(table)); !slices.Equal(x, want) {
			t.Error("IndexOf", table, "is", x, "and not", want)
		}
		if !impl.IndexOk(x) {
			t.Error("IndexOk", x)
		}
		if got := impl.RelOf(rowsOf(x)); !slices.Equal(got, table) || len(x) != len(table) {
			t.Error("rows", table, got)
		}
		if len(x) == 0 {
			continue
		}
		last := 0
		for _, r := range table {
			last = max(last, r.Span.To)
		}
		if x[0].Last != last || x[0].Left != len(table)/2 {
			t.Error("root", x[0], table)
		}
	}
}

func TestIndexOfAtEdges(t *testing.T) {
	for _, c := range []struct {
		table []impl.Row
		want  []impl.Node
	}{
		{nil, nil},
		{rows(row("a", "x", 5, 9)), []impl.Node{{Row: row("a", "x", 5, 9), Last: 9}}},
		{rows(row("a", "x", 5, 9), row("b", "x", 0, 3)), []impl.Node{{Row: row("a", "x", 5, 9), Left: 1, Last: 9}, {Row: row("b", "x", 0, 3), Last: 3}}},
		{rows(row("a", "x", 0, 30), row("b", "x", 0, 3)), []impl.Node{{Row: row("b", "x", 0, 3), Left: 1, Last: 30}, {Row: row("a", "x", 0, 30), Last: 30}}},
		{rows(row("a", "x", 0, 9), row("b", "x", 0, 3), row("c", "x", 0, 5)), []impl.Node{{Row: row("b", "x", 0, 3), Left: 1, Last: 9}, {Row: row("a", "x", 0, 9), Last: 9}, {Row: row("c", "x", 0, 5), Last: 5}}},
		{
			rows(row("a", "x", 0, 2), row("a", "y", 2, 4), row("a", "x", 4, 6), row("a", "y", 6, 100)),
			[]impl.Node{{Row: row("a", "x", 4, 6), Left: 2, Last: 100}, {Row: row("a", "y", 2, 4), Left: 1, Last: 4}, {Row: row("a", "x", 0, 2), Last: 2}, {Row: row("a", "y", 6, 100), Last: 100}},
		},
	} {
		if got := impl.IndexOf(c.table); !slices.Equal(got, c.want) {
			t.Error(c.table, got)
		}
	}
	for _, table := range badTables() {
		if got := impl.IndexOf(table); len(got) > 0 {
			t.Error("no table", table, got)
		}
	}
}

// badIndexes differ from an index of a table in one way each.
func badIndexes() [][]impl.Node {
	var list [][]impl.Node
	for _, table := range indexTables()[:90] {
		x := nodesOf(byFrom(table))
		other := func(change func(x []impl.Node)) {
			y := slices.Clone(x)
			change(y)
			list = append(list, y)
		}
		for i := range x {
			for _, by := range []int{-1, 1, math.MaxInt, math.MinInt} {
				other(func(y []impl.Node) { y[i].Left += by })
				other(func(y []impl.Node) { y[i].Last += by })
			}
			other(func(y []impl.Node) { y[i].Row = impl.Row{} })
			other(func(y []impl.Node) { y[i].Row.Text = "" })
			other(func(y []impl.Node) { y[i].Row.Span.To = y[i].Row.Span.From })
			list = append(list, slices.Insert(slices.Clone(x), i, x[i]), slices.Insert(slices.Clone(x), i, impl.Node{}))
			for j := range i {
				other(func(y []impl.Node) { y[i], y[j] = y[j], y[i] })
				other(func(y []impl.Node) { y[i].Row, y[j].Row = y[j].Row, y[i].Row })
			}
		}
	}
	for _, table := range badTables() {
		if !impl.RelOk(byKey(table)) {
			list = append(list, nodesOf(byFrom(table)))
		}
	}
	var many []impl.Row
	for i := range 3000 {
		many = append(many, row("a", "x", i%50*2, i%50*2+1))
	}
	return append(list, []impl.Node{{}}, nodesOf(byFrom(many)), make([]impl.Node, 100000))
}

func TestIndexOk(t *testing.T) {
	if !impl.IndexOk(nil) || !impl.IndexOk([]impl.Node{}) {
		t.Error("the tree of none")
	}
	for _, x := range badIndexes() {
		if impl.IndexOk(x) {
			t.Error("is not valid", x)
		}
	}
	x := nodesOf(byFrom(rows(row("a", "x", 0, 5), row("b", "x", 2, 3), row("c", "x", 4, 20))))
	for _, y := range [][]impl.Node{x[1:], x[:2], {x[1], x[0], x[2]}, {x[0], x[2], x[1]}, nodesOf(byKey(rows(row("a", "x", 4, 5), row("b", "x", 2, 3))))} {
		if impl.IndexOk(y) {
			t.Error("a part or another order", y)
		}
	}
}

// checkMeet says what P48 does, and that the result is the only one.
func checkMeet(t *testing.T, x []impl.Node, s impl.Span) {
	t.Helper()
	var want []impl.Row
	for _, r := range byFrom(rowsOf(x)) {
		if r.Span.From < s.To && s.From < r.Span.To {
			want = append(want, r)
		}
	}
	got, looks := impl.IndexMeet(x, s)
	if !slices.Equal(got, want) {
		t.Error("IndexMeet", x, s, "is", got, "and not", want)
	}
	if looks != looksAt(x, s) || looks < len(got) || looks > len(x) {
		t.Error("IndexMeet", x, s, "examines", looks, "and not", looksAt(x, s))
	}
}

// P48
func TestOverlapQueriesAreExact(t *testing.T) {
	for _, table := range indexTables() {
		x := impl.IndexOf(table)
		for _, s := range edgeSpans() {
			checkMeet(t, x, s)
		}
		for _, r := range table {
			from, to := r.Span.From, r.Span.To
			for _, s := range set(r.Span, span(0, from), span(0, from+1), span(from-1, from), span(from, from+1), span(to-1, to), span(to, to+1), span(to, 100), span(to-1, 100), span(from-1, to+1)) {
				if impl.SpanOk(s) {
					checkMeet(t, x, s)
				}
			}
		}
	}
}

func TestIndexMeetAtEdges(t *testing.T) {
	a, b, c := row("a", "x", 10, 15), row("b", "x", 12, 13), row("c", "x", 14, 30)
	three := rows(a, b, c)
	for _, one := range []struct {
		name  string
		table []impl.Row
		s     impl.Span
		want  []impl.Row
		looks int
	}{
		{"a tree of none", nil, span(0, 100), nil, 0},
		{"a tree of one", rows(a), span(0, 100), rows(a), 1},
		{"a tree of one, ahead", rows(a), span(0, 10), nil, 1},
		{"a tree of one, behind", rows(a), span(15, 16), nil, 0},
		{"all", three, span(0, 100), rows(a, b, c), 3},
		{"the first node only touches", three, span(13, 14), rows(a), 3},
		{"ahead of all", three, span(0, 10), nil, 2},
		{"ahead of all and apart", three, span(0, 1), nil, 2},
		{"behind all", three, span(30, 31), nil, 0},
		{"behind all and apart", three, span(99, 100), nil, 0},
		{"the last point", three, span(29, 30), rows(c), 2},
		{"the first point", three, span(10, 11), rows(a), 2},
		{"up to the first node", three, span(0, 12), rows(a), 2},
		{"just the first node", three, span(0, 13), rows(a, b), 3},
		{"the same From", rows(row("a", "x", 5, 6), row("b", "x", 5, 9), row("c", "x", 5, 7)), span(6, 7), rows(row("b", "x", 5, 9), row("c", "x", 5, 7)), 2},
		{"in the order of From", rows(row("a", "x", 50, 51), row("b", "x", 20, 60)), span(50, 51), rows(row("b", "x", 20, 60), row("a", "x", 50, 51)), 2},
	} {
		got, looks := impl.IndexMeet(impl.IndexOf(one.table), one.s)
		if !slices.Equal(got, one.want) || looks != one.looks {
			t.Error(one.name, got, looks)
		}
	}
}

func somePoints() []int {
	list := []int{math.MinInt, math.MinInt + 1, -1000, 101, 1000, math.MaxInt - 1, math.MaxInt}
	for at := -2; at <= impl.TimeMax+2; at++ {
		list = append(list, at)
	}
	return list
}

// P49
func TestPointQueriesAreExact(t *testing.T) {
	for _, table := range indexTables() {
		x := impl.IndexOf(table)
		for _, at := range somePoints() {
			var want []impl.Row
			for _, r := range byFrom(table) {
				if inside(set(r.Span), at) {
					want = append(want, r)
				}
			}
			got := impl.IndexStab(x, at)
			if !slices.Equal(got, want) {
				t.Error(table, at, got, want)
			}
			if there := impl.RelAt(impl.RelOf(got), at); !slices.Equal(there, impl.RelAt(table, at)) {
				t.Error("RelAt", table, at, there)
			}
		}
	}
}

func TestIndexStabAtEdges(t *testing.T) {
	x := impl.IndexOf(rows(row("a", "x", 0, 100), row("b", "x", 99, 100), row("c", "x", 0, 1)))
	for _, c := range []struct {
		at   int
		want []impl.Row
	}{
		{-1, nil}, {100, nil}, {math.MaxInt, nil}, {math.MinInt, nil},
		{0, rows(row("a", "x", 0, 100), row("c", "x", 0, 1))},
		{1, rows(row("a", "x", 0, 100))},
		{99, rows(row("a", "x", 0, 100), row("b", "x", 99, 100))},
	} {
		if got := impl.IndexStab(x, c.at); !slices.Equal(got, c.want) {
			t.Error(c.at, got)
		}
		if got := impl.IndexStab(nil, c.at); len(got) > 0 {
			t.Error("a tree of none", c.at, got)
		}
	}
}

// P50
func TestQueriesBeyondTheLastRowAreCheap(t *testing.T) {
	many := 0
	for _, table := range indexTables() {
		x := impl.IndexOf(table)
		if len(x) == 0 || x[0].Last > impl.TimeMax {
			continue
		}
		for to := x[0].Last + 1; to <= impl.TimeMax+1; to++ {
			many++
			if got, looks := impl.IndexMeet(x, span(x[0].Last, to)); looks != 0 || len(got) > 0 {
				t.Error(table, to, got, looks)
			}
		}
		if _, looks := impl.IndexMeet(x, span(x[0].Last-1, x[0].Last)); looks == 0 {
			t.Error("a row holds there", table)
		}
	}
	if many < 1000 {
		t.Error("few queries", many)
	}
}

func TestIndexQueriesRejectBadArguments(t *testing.T) {
	for _, x := range badIndexes() {
		for _, s := range append(badSpans()[:3], span(0, 100), span(99, 100)) {
			if got, looks := impl.IndexMeet(x, s); looks != -1 || len(got) > 0 {
				t.Error("no tree", x, s, got, looks)
			}
		}
		for _, at := range []int{-1, 0, 10, 99, 100} {
			if got := impl.IndexStab(x, at); len(got) > 0 {
				t.Error("no tree", x, at, got)
			}
		}
	}
	for _, table := range indexTables() {
		x := impl.IndexOf(table)
		for _, s := range badSpans() {
			if got, looks := impl.IndexMeet(x, s); looks != -1 || len(got) > 0 {
				t.Error("no period", x, s, got, looks)
			}
		}
	}
}

func TestIndexResultsShareNoMemory(t *testing.T) {
	for _, list := range indexTables()[:60] {
		table := roomyRows(list)
		wholeRows := slices.Clone(table[:cap(table)])
		x := slices.Grow(nodesOf(byFrom(list)), 8)
		wholeNodes := slices.Clone(x[:cap(x)])
		made := impl.IndexOf(table)
		scribble(made, impl.Node{})
		met, _ := impl.IndexMeet(x, span(0, 100))
		scribble(met, impl.Row{})
		scribble(impl.IndexStab(x, 10), impl.Row{})
		impl.IndexOk(x)
		if !slices.Equal(table[:cap(table)], wholeRows) || !slices.Equal(x[:cap(x)], wholeNodes) {
			t.Error("an argument has changed", list)
		}
	}
}
