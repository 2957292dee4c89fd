package tests

import (
	"fmt"
	"math"
	"slices"
	"strings"
	"testing"

	"loop.example/varve/impl"
)

func row(key string, text string, from int, to int) impl.Row {
	return impl.Row{Key: key, Text: text, Span: span(from, to)}
}

func rows(list ...impl.Row) []impl.Row {
	return list
}

// textOf is the tests' own lookup, which asks nothing of the rows' order.
func textOf(list []impl.Row, key string, at int) string {
	for _, r := range list {
		if r.Key == key && inside(set(r.Span), at) {
			return r.Text
		}
	}
	return ""
}

// tableWhere builds a table point by point, the long way round. The keys are in order.
func tableWhere(keys []string, text func(key string, at int) string) []impl.Row {
	var list []impl.Row
	for _, key := range keys {
		before := ""
		for at := 0; at <= impl.TimeMax; at++ {
			now := text(key, at)
			switch {
			case now == "":
			case now == before:
				list[len(list)-1].Span.To = at + 1
			default:
				list = append(list, row(key, now, at, at+1))
			}
			before = now
		}
	}
	return list
}

// edgeKeys are the keys of edgeTables, and one that none of them has.
var edgeKeys = []string{"+", "a", "b", "z"}

// edgeTables has, for the key a, every choice of no text, x or y in each of
// five periods: rows that touch with different texts, that lie apart with the
// same one, at the first point, at the last one, and across all of them.
func edgeTables() [][]impl.Row {
	cuts := []int{1, 2, 50, 99, 100}
	texts := []string{"", "x", "y"}
	var list [][]impl.Row
	for pick := range 243 {
		list = append(list, tableWhere(edgeKeys, func(key string, at int) string {
			switch {
			case key == "a":
				choice := pick
				for _, cut := range cuts {
					if at < cut {
						return texts[choice%3]
					}
					choice /= 3
				}
			case key == "+" && pick%2 == 1 && at >= 98, key == "b" && pick%3 > 0 && at%40 < 20:
				return "x"
			}
			return ""
		}))
	}
	return list
}

func badWords() []string {
	return []string{
		"", "A", "Z", "aB", "abcdefghij", "a b", " a", "a ", "-", "a-b", "a\n", "\x00", "a\x00", "é", "\xff", "a\xe1",
		"`", "{", "/", ":", "*", ",", "@", "[", "=", strings.Repeat("a", 1000),
	}
}

func goodWords() []string {
	return []string{"a", "z", "0", "9", "+", "m5", "a+b", "+++", "123456789", "abcdefghi", "+0a9z"}
}

func badRows() []impl.Row {
	list := rows(impl.Row{})
	for _, word := range badWords() {
		list = append(list, row(word, "x", 5, 9), row("a", word, 5, 9))
	}
	for _, s := range badSpans() {
		list = append(list, impl.Row{Key: "a", Text: "x", Span: s})
	}
	return list
}

// scattered has rows of one key and one text that do not touch.
func scattered(key string, many int) []impl.Row {
	var list []impl.Row
	for i := range many {
		list = append(list, row(key, "x", 4*i, 4*i+3))
	}
	return list
}

func badTables() [][]impl.Row {
	list := [][]impl.Row{
		rows(row("a", "x", 1, 4), row("a", "x", 4, 5)),
		rows(row("a", "x", 0, 99), row("a", "x", 99, 100)),
		rows(row("a", "x", 1, 4), row("a", "x", 3, 5)),
		rows(row("a", "x", 1, 4), row("a", "y", 3, 5)),
		rows(row("a", "x", 1, 9), row("a", "y", 3, 5)),
		rows(row("a", "x", 1, 9), row("a", "y", 1, 9)),
		rows(row("a", "x", 1, 9), row("a", "x", 1, 9)),
		rows(row("a", "x", 6, 9), row("a", "x", 1, 3)),
		rows(row("a", "y", 6, 9), row("a", "x", 3, 6)),
		rows(row("b", "x", 1, 3), row("a", "x", 6, 9)),
		rows(row("a", "x", 1, 3), row("b", "x", 1, 3), row("a", "y", 6, 9)),
		rows(row("aa", "x", 1, 3), row("a", "x", 1, 3)),
		rows(row("a", "x", 1, 3), row("+", "x", 1, 3)),
		rows(row("a", "x", 1, 3), row("0", "x", 1, 3)),
		rows(row("a", "x", 1, 3), row("a", "y", 3, 6), row("a", "y", 6, 7)),
		scattered("a", impl.RowsMax+1),
	}
	for _, r := range badRows() {
		list = append(list, rows(r), rows(r, row("z", "x", 1, 3)), rows(row("+", "x", 1, 3), r))
	}
	return list
}

func TestRowOk(t *testing.T) {
	for _, word := range goodWords() {
		if !impl.RowOk(row(word, "x", 0, 100)) || !impl.RowOk(row("a", word, 99, 100)) {
			t.Error("not ok", word)
		}
	}
	for _, r := range badRows() {
		if impl.RowOk(r) {
			t.Error("ok", r)
		}
	}
	for b := range 256 {
		word := "a" + string([]byte{byte(b)})
		want := strings.Contains("abcdefghijklmnopqrstuvwxyz0123456789+", word[1:])
		if impl.RowOk(row(word, "x", 1, 2)) != want || impl.RowOk(row("k", word, 1, 2)) != want {
			t.Error("byte", b)
		}
	}
	for _, s := range edgeSpans() {
		if !impl.RowOk(impl.Row{Key: "a", Text: "x", Span: s}) {
			t.Error("not ok", s)
		}
	}
}

func TestRelOk(t *testing.T) {
	good := append(edgeTables(), nil, rows(),
		scattered("a", impl.RowsMax),
		rows(row("a", "x", 1, 3), row("b", "x", 0, 100), row("c", "x", 3, 5)),
		rows(row("a", "x", 1, 3), row("a", "y", 3, 6), row("a", "x", 6, 9)),
		rows(row("+", "x", 1, 3), row("0", "x", 1, 3), row("a", "x", 1, 3), row("a+", "x", 1, 3), row("aa", "x", 1, 3)))
	for _, table := range good {
		if !impl.RelOk(table) {
			t.Error("not ok", table)
		}
	}
	for _, table := range badTables() {
		if impl.RelOk(table) {
			t.Error("ok", table)
		}
	}
}

// P9
func TestAKeyHasAtMostOneValueAtAPoint(t *testing.T) {
	for _, table := range edgeTables() {
		for _, key := range edgeKeys {
			spans := impl.RelSpans(table, key)
			for at := -1; at <= impl.TimeMax+1; at++ {
				got := impl.RelGet(table, key, at)
				var texts []string
				for _, p := range impl.RelAt(table, at) {
					if p.Key == key {
						texts = append(texts, p.Text)
					}
				}
				if len(texts) > 1 || strings.Join(texts, "") != got || (got != "") != impl.SetHas(spans, at) || got != textOf(table, key, at) {
					t.Error(table, key, at, got)
				}
			}
		}
	}
}

func TestRelGetAtEdges(t *testing.T) {
	table := rows(row("a", "x", 0, 3), row("a", "y", 3, 6), row("a", "x", 8, 100), row("aa", "z", 6, 8))
	for _, c := range []struct {
		key  string
		at   int
		want string
	}{
		{"a", 0, "x"}, {"a", 2, "x"}, {"a", 3, "y"}, {"a", 5, "y"}, {"a", 6, ""}, {"a", 7, ""}, {"a", 8, "x"}, {"a", 99, "x"},
		{"a", -1, ""}, {"a", 100, ""}, {"a", math.MinInt, ""}, {"a", math.MaxInt, ""},
		{"aa", 5, ""}, {"aa", 6, "z"}, {"aa", 8, ""}, {"b", 1, ""}, {"", 1, ""}, {"A", 1, ""}, {"x", 1, ""},
	} {
		if got := impl.RelGet(table, c.key, c.at); got != c.want {
			t.Error(c, got)
		}
	}
	if impl.RelGet(nil, "a", 1) != "" {
		t.Error("the empty table")
	}
}

// P10
func TestASnapshotIsOrderedByKey(t *testing.T) {
	for _, table := range edgeTables() {
		for at := -1; at <= impl.TimeMax+1; at++ {
			var want []impl.Pair
			for _, key := range edgeKeys {
				if text := textOf(table, key, at); text != "" {
					want = append(want, impl.Pair{Key: key, Text: text})
				}
			}
			got, valid := impl.RelAt(table, at), 0
			for _, r := range table {
				if inside(set(r.Span), at) {
					valid++
				}
			}
			if !slices.Equal(got, want) || len(got) != valid {
				t.Error(table, at, got)
			}
			for _, p := range got {
				if impl.RelGet(table, p.Key, at) != p.Text {
					t.Error(table, at, p)
				}
			}
		}
	}
}

func TestRelAtComparesKeysByteByByte(t *testing.T) {
	keys := []string{"+", "0", "9", "a", "a+", "a0", "aa", "b", "z"}
	var list []impl.Row
	for _, key := range keys {
		list = append(list, row(key, "x", 99, 100))
	}
	table := impl.RelOf(list)
	got := impl.RelAt(table, 99)
	if len(got) != len(keys) || len(impl.RelAt(table, 98)) != 0 {
		t.Fatal(got)
	}
	for i, key := range keys {
		if got[i] != (impl.Pair{Key: key, Text: "x"}) {
			t.Error(i, got[i])
		}
	}
	for _, at := range []int{-1, 100, math.MinInt, math.MaxInt} {
		if len(impl.RelAt(table, at)) != 0 || len(impl.RelAt(nil, at)) != 0 {
			t.Error("no point", at)
		}
	}
}

// P11
func TestRowsDetermineATable(t *testing.T) {
	for _, table := range edgeTables() {
		got := impl.RelOf(table)
		if !slices.Equal(got, table) {
			t.Error("a table is not the one of its rows", table, got)
		}
		pieces := cut(table)
		if got := impl.RelOf(pieces); !slices.Equal(got, table) || !impl.RelOk(got) {
			t.Error(pieces, got)
		}
		slices.Reverse(pieces)
		got = impl.RelOf(pieces)
		if !slices.Equal(got, table) || !slices.Equal(impl.RelOf(got), got) {
			t.Error(pieces, got)
		}
		for _, r := range pieces {
			for at := r.Span.From; at < r.Span.To; at++ {
				if impl.RelGet(got, r.Key, at) != r.Text {
					t.Error(pieces, r, at)
				}
			}
		}
	}
}

// cut cuts each row into up to three pieces that touch.
func cut(table []impl.Row) []impl.Row {
	var list []impl.Row
	for _, r := range table {
		from := r.Span.From
		for _, to := range []int{r.Span.From + 1, r.Span.From + 7, r.Span.To} {
			if to <= r.Span.To && from < to {
				list = append(list, row(r.Key, r.Text, from, to))
				from = to
			}
		}
	}
	return list
}

func TestRelOfInEveryOrder(t *testing.T) {
	list := rows(row("b", "x", 0, 2), row("a", "x", 1, 4), row("a", "y", 6, 9), row("a", "x", 4, 6), row("+", "x", 9, 100))
	want := rows(row("+", "x", 9, 100), row("a", "x", 1, 6), row("a", "y", 6, 9), row("b", "x", 0, 2))
	var permute func(done []impl.Row, rest []impl.Row)
	permute = func(done []impl.Row, rest []impl.Row) {
		if len(rest) == 0 {
			if got := impl.RelOf(done); !slices.Equal(got, want) {
				t.Error(done, got)
			}
		}
		for i, r := range rest {
			permute(append(slices.Clone(done), r), slices.Concat(rest[:i], rest[i+1:]))
		}
	}
	permute(nil, list)
}

func TestRelOfCountsTheRowsOfTheTable(t *testing.T) {
	var points []impl.Row
	for i := range 100 {
		at := (i*37 + 11) % 100
		points = append(points, row("b", "y", at, at+1), row("a", "x", at, at+1))
	}
	if got := impl.RelOf(points); !slices.Equal(got, rows(row("a", "x", 0, 100), row("b", "y", 0, 100))) {
		t.Error("many rows that become two", got)
	}
	most := scattered("a", impl.RowsMax)
	if got := impl.RelOf(most); !slices.Equal(got, most) {
		t.Error("RowsMax rows", got)
	}
	if got := impl.RelOf(append(most, row("a", "x", 3, 4))); len(got) != impl.RowsMax-1 || !impl.RelOk(got) {
		t.Error("one more row that makes two into one", got)
	}
	if got := impl.RelOf(append(most, row("b", "x", 3, 4))); len(got) != 0 {
		t.Error("more than RowsMax rows", got)
	}
	if len(impl.RelOf(nil)) != 0 {
		t.Error("no rows")
	}
}

func TestRelOfRejectsBadRowsAndOverlaps(t *testing.T) {
	for _, r := range badRows() {
		for _, list := range [][]impl.Row{rows(r), rows(row("a", "x", 1, 5), r), rows(r, row("z", "x", 5, 7)), rows(row("a", "x", 1, 5), r, row("a", "x", 5, 9))} {
			if len(impl.RelOf(list)) != 0 {
				t.Error(list)
			}
		}
	}
	for _, list := range [][]impl.Row{
		rows(row("a", "x", 1, 4), row("a", "x", 3, 5)),
		rows(row("a", "x", 3, 5), row("a", "y", 1, 4)),
		rows(row("a", "x", 1, 4), row("a", "x", 1, 4)),
		rows(row("a", "x", 1, 4), row("a", "y", 1, 4)),
		rows(row("a", "x", 0, 100), row("a", "y", 99, 100)),
		rows(row("a", "x", 0, 50), row("a", "y", 10, 20), row("a", "x", 50, 60)),
		rows(row("a", "x", 0, 5), row("a", "x", 5, 8), row("a", "x", 6, 9)),
		rows(row("a", "x", 0, 5), row("a", "x", 5, 8), row("a", "x", 0, 1)),
		rows(row("b", "x", 0, 5), row("a", "x", 5, 8), row("b", "x", 4, 9)),
	} {
		if got := impl.RelOf(list); len(got) != 0 {
			t.Error(list, got)
		}
	}
}

// smallLists has every list of up to three rows of two keys and two texts
// within three points, the last of which may be TimeMax.
func smallLists(first int) [][]impl.Row {
	var single []impl.Row
	for from := first; from < first+3; from++ {
		for to := from + 1; to <= first+3; to++ {
			single = append(single, row("a", "x", from, to), row("a", "y", from, to), row("b", "x", from, to))
		}
	}
	list, last := [][]impl.Row{nil}, [][]impl.Row{nil}
	for range 3 {
		var longer [][]impl.Row
		for _, short := range last {
			for _, r := range single {
				longer = append(longer, append(slices.Clone(short), r))
			}
		}
		list, last = append(list, longer...), longer
	}
	return list
}

// snapshots is all that RelAt says of a table.
func snapshots(table []impl.Row) string {
	var all strings.Builder
	for at := 0; at <= impl.TimeMax; at++ {
		if pairs := impl.RelAt(table, at); len(pairs) > 0 {
			fmt.Fprint(&all, at, pairs, ";")
		}
	}
	return all.String()
}

// P12
func TestTablesWithEqualSnapshotsAreEqual(t *testing.T) {
	for _, first := range []int{0, 40, 97} {
		seen := map[string][]impl.Row{"": nil}
		for _, list := range smallLists(first) {
			for _, table := range [][]impl.Row{list, impl.RelOf(list)} {
				if !impl.RelOk(table) {
					continue
				}
				all := snapshots(table)
				if other, ok := seen[all]; ok && !slices.Equal(other, table) {
					t.Error(other, table)
				}
				seen[all] = table
			}
		}
		if len(seen) < 27*5 {
			t.Error("few tables", len(seen))
		}
	}
}

func TestRelOfAndRelOkOfSmallLists(t *testing.T) {
	for _, list := range smallLists(97) {
		overlap := false
		for i, r := range list {
			for _, other := range list[:i] {
				overlap = overlap || r.Key == other.Key && r.Span.From < other.Span.To && other.Span.From < r.Span.To
			}
		}
		var want []impl.Row
		if !overlap {
			want = tableWhere([]string{"a", "b"}, func(key string, at int) string { return textOf(list, key, at) })
		}
		if got := impl.RelOf(list); !slices.Equal(got, want) {
			t.Error(list, got)
		}
		if impl.RelOk(list) != slices.Equal(list, want) {
			t.Error("ok", list)
		}
	}
}

// P13
func TestRelSpansIsTheLifetimeOfAKey(t *testing.T) {
	for _, table := range edgeTables() {
		for _, key := range append(edgeKeys, "", "aa", "A") {
			want, many, points := setWhere(func(at int) bool { return textOf(table, key, at) != "" }), 0, 0
			for _, r := range table {
				if r.Key == key {
					many++
					points += r.Span.To - r.Span.From
				}
			}
			got := impl.RelSpans(table, key)
			if !slices.Equal(got, want) || !impl.SetOk(got) || impl.SetMany(got) != points || (len(got) == 0) != (many == 0) {
				t.Error(table, key, got)
			}
		}
	}
}

func TestRelSpansJoinsRowsThatTouch(t *testing.T) {
	table := rows(row("a", "x", 0, 3), row("a", "y", 3, 6), row("a", "x", 8, 99), row("a", "y", 99, 100), row("b", "x", 6, 8))
	if got := impl.RelSpans(table, "a"); !slices.Equal(got, set(span(0, 6), span(8, 100))) {
		t.Error(got)
	}
	if got := impl.RelSpans(table, "b"); !slices.Equal(got, set(span(6, 8))) {
		t.Error(got)
	}
	if len(impl.RelSpans(table, "x")) != 0 || len(impl.RelSpans(table, "")) != 0 || len(impl.RelSpans(nil, "a")) != 0 {
		t.Error("a key without rows")
	}
}

// P14
func TestRelKeysListsTheKeysOfTheRows(t *testing.T) {
	for _, table := range edgeTables() {
		var want []string
		for _, key := range edgeKeys {
			if slices.ContainsFunc(table, func(r impl.Row) bool { return r.Key == key }) {
				want = append(want, key)
			}
		}
		if got := impl.RelKeys(table); !slices.Equal(got, want) {
			t.Error(table, got)
		}
	}
	table := rows(row("+", "x", 1, 3), row("0", "x", 1, 3), row("a", "x", 1, 3), row("a", "y", 3, 5), row("a", "x", 9, 100), row("a+", "x", 0, 1), row("aa", "x", 1, 3))
	if got := impl.RelKeys(table); !slices.Equal(got, []string{"+", "0", "a", "a+", "aa"}) {
		t.Error(got)
	}
	if len(impl.RelKeys(nil)) != 0 {
		t.Error("the empty table")
	}
}

func TestQueriesRejectBadTables(t *testing.T) {
	for _, table := range badTables() {
		for _, key := range []string{"a", "z", "+", ""} {
			if len(impl.RelSpans(table, key)) != 0 {
				t.Error("spans", table, key)
			}
			for at := -1; at <= impl.TimeMax+1; at++ {
				if impl.RelGet(table, key, at) != "" {
					t.Error("get", table, key, at)
				}
			}
		}
		for at := -1; at <= impl.TimeMax+1; at++ {
			if len(impl.RelAt(table, at)) != 0 {
				t.Error("at", table, at)
			}
		}
		if len(impl.RelKeys(table)) != 0 {
			t.Error("keys", table)
		}
	}
}
