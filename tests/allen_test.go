package tests

import (
	"math"
	"slices"
	"testing"

	"loop.example/varve/impl"
)

// relations are the thirteen ones, in ascending order.
var relations = []int{-6, -5, -4, -3, -2, -1, 1, 2, 3, 4, 5, 6, 7}

// order writes how the bounds of a are to those of b: From to From, From to To,
// To to From, To to To.
func order(a impl.Span, b impl.Span) string {
	text := ""
	for _, p := range [][2]int{{a.From, b.From}, {a.From, b.To}, {a.To, b.From}, {a.To, b.To}} {
		switch {
		case p[0] < p[1]:
			text += "<"
		case p[0] > p[1]:
			text += ">"
		default:
			text += "="
		}
	}
	return text
}

// standing is the tests' own reading of the relations, for periods of any
// integers: 0 if a or b is empty.
func standing(a impl.Span, b impl.Span) int {
	return map[string]int{
		"<<<<": impl.StandBefore, "<<=<": impl.StandTouch, "<<><": impl.StandLaps,
		"=<><": impl.StandBegins, "><>=": impl.StandEnds, "><><": impl.StandWithin,
		"=<>=": impl.StandSame,
		">>>>": -impl.StandBefore, ">=>>": -impl.StandTouch, "><>>": -impl.StandLaps,
		"=<>>": -impl.StandBegins, "<<>=": -impl.StandEnds, "<<>>": -impl.StandWithin,
	}[order(a, b)]
}

func inverse(way int) int {
	if way == impl.StandSame {
		return way
	}
	return -way
}

// inverses is in ascending order, as a composition is.
func inverses(ways []int) []int {
	var list []int
	for _, way := range ways {
		list = append(list, inverse(way))
	}
	slices.Sort(list)
	return list
}

// standSpans has all short periods, and those of edgeSpans.
func standSpans() []impl.Span {
	return append(spansBetween(0, 1, 2, 3, 4, 5, 6), edgeSpans()...)
}

// noRelations has numbers whose negative or whose low bits are a relation, or
// that are an index of a table of relations.
func noRelations() []int {
	return []int{
		0, 8, -8, -impl.StandSame, 9, -9, 10, 13, 14, 15, -13, -14, -15, 100, -100, 255, 256 + 1, -256 - 1,
		1<<32 + 1, -1<<32 + 1, 1 << 32, math.MaxInt, math.MaxInt - 1, math.MaxInt - 7, math.MinInt, math.MinInt + 1, math.MinInt + 7,
	}
}

func TestTheNumbersOfTheRelations(t *testing.T) {
	got := []int{impl.StandBefore, impl.StandTouch, impl.StandLaps, impl.StandBegins, impl.StandEnds, impl.StandWithin, impl.StandSame}
	if !slices.Equal(got, []int{1, 2, 3, 4, 5, 6, 7}) {
		t.Error(got)
	}
}

func TestStandOfEachRelation(t *testing.T) {
	for _, c := range []struct {
		name string
		a, b impl.Span
		want int
	}{
		{"a gap of one point", span(0, 5), span(6, 9), 1},
		{"as far apart as can be", span(0, 1), span(99, 100), 1},
		{"touching", span(0, 5), span(5, 9), 2},
		{"touching at the last point", span(0, 99), span(99, 100), 2},
		{"one common point", span(0, 6), span(5, 9), 3},
		{"all but the ends in common", span(0, 99), span(1, 100), 3},
		{"beginning together", span(0, 5), span(0, 6), 4},
		{"beginning together, one point", span(0, 1), span(0, 100), 4},
		{"ending together", span(5, 9), span(4, 9), 5},
		{"ending together, one point", span(99, 100), span(0, 100), 5},
		{"within", span(5, 9), span(4, 10), 6},
		{"within, a point less on each side", span(1, 99), span(0, 100), 6},
		{"equal", span(5, 9), span(5, 9), 7},
		{"all points", span(0, 100), span(0, 100), 7},
		{"one point", span(0, 1), span(0, 1), 7},
		{"the last point", span(99, 100), span(99, 100), 7},
	} {
		if got := impl.StandOf(c.a, c.b); got != c.want {
			t.Error(c.name, c.a, c.b, got)
		}
		if got := impl.StandOf(c.b, c.a); got != inverse(c.want) {
			t.Error("exchanged", c.name, c.b, c.a, got)
		}
	}
}

// P53
func TestRelationsHaveInverses(t *testing.T) {
	seen := map[int]bool{}
	for _, a := range standSpans() {
		for _, b := range standSpans() {
			way, back := impl.StandOf(a, b), impl.StandOf(b, a)
			if way != standing(a, b) || way == 0 {
				t.Error(a, b, way, "and not", standing(a, b))
			}
			if way == impl.StandSame && (a != b || back != way) || way != impl.StandSame && (a == b || back != -way) {
				t.Error("exchanged", a, b, way, back)
			}
			_, meet := impl.SpanMeet(a, b)
			if apart := max(way, -way) <= impl.StandTouch; meet == apart {
				t.Error("SpanMeet", a, b, way)
			}
			seen[way] = true
		}
	}
	if len(seen) != len(relations) {
		t.Error("some relation does not occur", seen)
	}
}

func TestStandOfRejectsBadSpans(t *testing.T) {
	for _, bad := range badSpans() {
		for _, s := range append(standSpans(), badSpans()...) {
			if one, other := impl.StandOf(bad, s), impl.StandOf(s, bad); one != 0 || other != 0 {
				t.Error(bad, s, one, other)
			}
		}
	}
}

// composed has the relations of all triples of periods, some of which begin
// and end outside of the points of time.
func composed() map[[2]int][]int {
	list := spansBetween(math.MinInt, -1000, -2, -1, 0, 1, 50, 99, 100, 101, math.MaxInt)
	table := map[[2]int][]int{}
	for _, a := range list {
		for _, b := range list {
			for _, c := range list {
				pair, way := [2]int{standing(a, b), standing(b, c)}, standing(a, c)
				if !slices.Contains(table[pair], way) {
					table[pair] = append(table[pair], way)
				}
			}
		}
	}
	for _, ways := range table {
		slices.Sort(ways)
	}
	return table
}

func TestStandWaysOfAllPairs(t *testing.T) {
	table, many := composed(), 0
	for _, x := range relations {
		for _, y := range relations {
			got := impl.StandWays(x, y)
			if want := table[[2]int{x, y}]; !slices.Equal(got, want) || len(want) == 0 {
				t.Error(x, y, got, "and not", want)
			}
			many += len(got)
		}
	}
	if many != 409 {
		t.Error("Allen's table has 409 relations and not", many)
	}
}

func TestStandWaysAtEdges(t *testing.T) {
	for _, c := range []struct {
		x, y int
		want []int
	}{
		{1, 1, []int{1}}, {2, 2, []int{1}}, {-2, -2, []int{-1}}, {3, 3, []int{1, 2, 3}}, {-3, -3, []int{-3, -2, -1}},
		{1, -1, relations}, {-1, 1, relations}, {6, -6, relations}, {-6, 6, []int{-6, -5, -4, -3, 3, 4, 5, 6, 7}},
		{2, -2, []int{-5, 5, 7}}, {-2, 2, []int{-4, 4, 7}}, {4, -4, []int{-4, 4, 7}}, {-5, 5, []int{-5, 5, 7}},
		{4, 5, []int{6}}, {5, 4, []int{6}}, {-4, -5, []int{-6}}, {6, 6, []int{6}}, {6, 1, []int{1}}, {1, 6, []int{1, 2, 3, 4, 6}},
		{3, -3, []int{-6, -5, -4, -3, 3, 4, 5, 6, 7}}, {5, -4, []int{-3, -2, -1}}, {7, 7, []int{7}},
	} {
		if got := impl.StandWays(c.x, c.y); !slices.Equal(got, c.want) {
			t.Error(c.x, c.y, got, "and not", c.want)
		}
	}
}

// P54
func TestCompositionsAreComplete(t *testing.T) {
	known := map[[2]int][]int{}
	for _, x := range relations {
		for _, y := range relations {
			known[[2]int{x, y}] = impl.StandWays(x, y)
		}
	}
	for _, list := range [][]impl.Span{spansBetween(0, 1, 2, 3, 4, 5, 6), edgeSpans()} {
		for _, a := range list {
			for _, b := range list {
				for _, c := range list {
					ways := known[[2]int{impl.StandOf(a, b), impl.StandOf(b, c)}]
					if way := impl.StandOf(a, c); !slices.Contains(ways, way) {
						t.Error(a, b, c, way, "is not in", ways)
					}
				}
			}
		}
	}
}

// P55
func TestCompositionsCanBeInverted(t *testing.T) {
	for _, x := range relations {
		for _, y := range relations {
			got, back := impl.StandWays(x, y), impl.StandWays(inverse(y), inverse(x))
			if !slices.Equal(back, inverses(got)) || len(got) == 0 {
				t.Error(x, y, got, back)
			}
		}
		left, right := impl.StandWays(impl.StandSame, x), impl.StandWays(x, impl.StandSame)
		if !slices.Equal(left, []int{x}) || !slices.Equal(right, []int{x}) {
			t.Error("with StandSame", x, left, right)
		}
	}
}

func TestStandWaysRejectsWhatIsNoRelation(t *testing.T) {
	for _, bad := range noRelations() {
		for _, other := range append(noRelations(), relations...) {
			if one, two := impl.StandWays(bad, other), impl.StandWays(other, bad); len(one) > 0 || len(two) > 0 {
				t.Error(bad, other, one, two)
			}
		}
	}
}

// P56
func TestStandAllRelatesEachRow(t *testing.T) {
	for _, table := range append(edgeTables(), indexTables()...) {
		for _, s := range edgeSpans() {
			var want []int
			for _, r := range table {
				way := impl.StandOf(r.Span, s)
				if way != standing(r.Span, s) {
					t.Error("StandOf", r, s, way)
				}
				want = append(want, way)
			}
			if got := impl.StandAll(table, s); !slices.Equal(got, want) {
				t.Error(table, s, got, "and not", want)
			}
		}
	}
}

func TestStandAllAtEdges(t *testing.T) {
	all := rows(
		row("a", "x", 0, 9), row("b", "x", 0, 10), row("c", "x", 0, 15), row("d", "x", 0, 20), row("e", "x", 0, 30),
		row("f", "x", 10, 15), row("g", "x", 10, 20), row("h", "x", 10, 30), row("i", "x", 12, 15), row("j", "x", 12, 20),
		row("k", "x", 12, 30), row("l", "x", 20, 30), row("m", "x", 21, 30))
	for _, c := range []struct {
		name  string
		table []impl.Row
		want  []int
	}{
		{"no rows", nil, nil},
		{"no rows, not nil", rows(), nil},
		{"all relations", all, []int{1, 2, 3, -5, -6, 4, 7, -4, 6, 5, -3, -2, -1}},
		{"the order of the rows", rows(row("a", "x", 50, 60), row("b", "x", 0, 5), row("b", "y", 5, 10)), []int{-1, 1, 2}},
		{"rows of one key and text", scattered("a", 4), []int{1, 1, 3, 6}},
	} {
		if got := impl.StandAll(c.table, span(10, 20)); !slices.Equal(got, c.want) {
			t.Error(c.name, got)
		}
	}
	if got := impl.StandAll(scattered("a", impl.RowsMax), span(0, 100)); len(got) != impl.RowsMax {
		t.Error("as many rows as can be", got)
	}
}

func TestStandAllRejectsBadArguments(t *testing.T) {
	for _, table := range badTables() {
		for _, s := range append(badSpans(), span(0, 100), span(5, 9)) {
			if got := impl.StandAll(table, s); len(got) > 0 {
				t.Error("no table", table, s, got)
			}
		}
	}
	for _, table := range [][]impl.Row{nil, rows(row("a", "x", 0, 9)), scattered("a", impl.RowsMax)} {
		for _, s := range badSpans() {
			if got := impl.StandAll(table, s); len(got) > 0 {
				t.Error("no period", table, s, got)
			}
		}
	}
}

func TestStandResultsShareNoMemory(t *testing.T) {
	for _, x := range relations {
		for _, y := range relations {
			want := slices.Clone(impl.StandWays(x, y))
			scribble(impl.StandWays(x, y), 77)
			if got := impl.StandWays(x, y); !slices.Equal(got, want) {
				t.Error("a result has changed", x, y, got)
			}
		}
	}
	for _, list := range edgeTables()[:60] {
		table := roomyRows(list)
		whole := slices.Clone(table[:cap(table)])
		want := slices.Clone(impl.StandAll(table, span(2, 50)))
		scribble(impl.StandAll(table, span(2, 50)), 77)
		if got := impl.StandAll(table, span(2, 50)); !slices.Equal(got, want) || !slices.Equal(table[:cap(table)], whole) {
			t.Error("an argument has changed", list)
		}
	}
}
