package tests

import (
	"math"
	"slices"
	"testing"

	"loop.example/varve/impl"
)

// edgeChanges has rows at each edge of edgeTables, in the midst of their
// periods, and across them, of keys that they have and of one that they lack.
func edgeChanges() []impl.Row {
	var list []impl.Row
	for _, s := range append(edgeSpans(), span(20, 30), span(60, 61)) {
		list = append(list,
			impl.Row{Key: "a", Text: "x", Span: s},
			impl.Row{Key: "a", Text: "new", Span: s},
			impl.Row{Key: "b", Text: "y", Span: s},
			impl.Row{Key: "z", Text: "x", Span: s})
	}
	return list
}

// changedWhere is the table in which the row's key has, within its Span, what
// text makes of what it had.
func changedWhere(table []impl.Row, r impl.Row, text func(old string) string) []impl.Row {
	return tableWhere(edgeKeys, func(key string, at int) string {
		old := textOf(table, key, at)
		if key == r.Key && inside(set(r.Span), at) {
			return text(old)
		}
		return old
	})
}

func wantTable(t *testing.T, what string, table []impl.Row, r impl.Row, got []impl.Row, ok bool, want []impl.Row, wantOk bool) {
	t.Helper()
	if !slices.Equal(got, want) || ok != wantOk || !impl.RelOk(got) {
		t.Error(what, table, r, "is", got, ok, "and not", want, wantOk)
	}
}

// P15
func TestInsertedValuesAreValidInTheirPeriod(t *testing.T) {
	for _, table := range edgeTables() {
		for _, r := range edgeChanges() {
			free := true
			for at := r.Span.From; at < r.Span.To; at++ {
				free = free && textOf(table, r.Key, at) == ""
			}
			want := table
			if free {
				want = changedWhere(table, r, func(string) string { return r.Text })
			}
			got, ok := impl.RelInsert(table, r)
			wantTable(t, "insert", table, r, got, ok, want, free)
			if again, ok := impl.RelInsert(got, r); ok || !slices.Equal(again, got) {
				t.Error("inserting again", table, r, again)
			}
		}
	}
}

func TestRelInsertAtEdges(t *testing.T) {
	table := rows(row("a", "x", 10, 20), row("a", "x", 30, 40), row("b", "y", 0, 5))
	for _, c := range []struct {
		r    impl.Row
		want []impl.Row
	}{
		{row("a", "x", 20, 30), rows(row("a", "x", 10, 40), row("b", "y", 0, 5))},
		{row("a", "y", 20, 30), rows(row("a", "x", 10, 20), row("a", "y", 20, 30), row("a", "x", 30, 40), row("b", "y", 0, 5))},
		{row("a", "x", 5, 10), rows(row("a", "x", 5, 20), row("a", "x", 30, 40), row("b", "y", 0, 5))},
		{row("a", "x", 40, 100), rows(row("a", "x", 10, 20), row("a", "x", 30, 100), row("b", "y", 0, 5))},
		{row("a", "x", 99, 100), rows(row("a", "x", 10, 20), row("a", "x", 30, 40), row("a", "x", 99, 100), row("b", "y", 0, 5))},
		{row("b", "x", 5, 6), rows(row("a", "x", 10, 20), row("a", "x", 30, 40), row("b", "y", 0, 5), row("b", "x", 5, 6))},
		{row("+", "y", 0, 100), rows(row("+", "y", 0, 100), row("a", "x", 10, 20), row("a", "x", 30, 40), row("b", "y", 0, 5))},
		{row("c", "y", 0, 100), rows(row("a", "x", 10, 20), row("a", "x", 30, 40), row("b", "y", 0, 5), row("c", "y", 0, 100))},
	} {
		if got, ok := impl.RelInsert(table, c.r); !ok || !slices.Equal(got, c.want) {
			t.Error(c, got, ok)
		}
	}
	for _, r := range []impl.Row{row("a", "x", 10, 20), row("a", "y", 19, 30), row("a", "x", 20, 31), row("a", "x", 0, 100), row("a", "x", 12, 13), row("b", "y", 4, 9)} {
		if got, ok := impl.RelInsert(table, r); ok || !slices.Equal(got, table) {
			t.Error("where the key has a value", r, got, ok)
		}
	}
	if got, ok := impl.RelInsert(nil, row("a", "x", 99, 100)); !ok || !slices.Equal(got, rows(row("a", "x", 99, 100))) {
		t.Error("into the empty table", got, ok)
	}
}

// P16
func TestDeletedValuesAreGoneInThePeriod(t *testing.T) {
	for _, table := range edgeTables() {
		for _, r := range edgeChanges() {
			want := changedWhere(table, r, func(string) string { return "" })
			got, ok := impl.RelDelete(table, r.Key, r.Span)
			wantTable(t, "delete", table, r, got, ok, want, true)
		}
	}
}

func TestRelDeleteAtEdges(t *testing.T) {
	table := rows(row("a", "x", 0, 20), row("a", "y", 20, 100), row("b", "y", 5, 9))
	for _, c := range []struct {
		key  string
		s    impl.Span
		want []impl.Row
	}{
		{"a", span(5, 6), rows(row("a", "x", 0, 5), row("a", "x", 6, 20), row("a", "y", 20, 100), row("b", "y", 5, 9))},
		{"a", span(15, 25), rows(row("a", "x", 0, 15), row("a", "y", 25, 100), row("b", "y", 5, 9))},
		{"a", span(20, 100), rows(row("a", "x", 0, 20), row("b", "y", 5, 9))},
		{"a", span(99, 100), rows(row("a", "x", 0, 20), row("a", "y", 20, 99), row("b", "y", 5, 9))},
		{"a", span(0, 100), rows(row("b", "y", 5, 9))},
		{"b", span(5, 9), rows(row("a", "x", 0, 20), row("a", "y", 20, 100))},
		{"b", span(9, 100), table},
		{"b", span(0, 5), table},
		{"c", span(0, 100), table},
	} {
		if got, ok := impl.RelDelete(table, c.key, c.s); !ok || !slices.Equal(got, c.want) {
			t.Error(c, got, ok)
		}
	}
	if got, ok := impl.RelDelete(rows(row("a", "x", 0, 20)), "a", span(0, 100)); !ok || len(got) != 0 {
		t.Error("nothing is left", got, ok)
	}
	if got, ok := impl.RelDelete(nil, "a", span(0, 100)); !ok || len(got) != 0 {
		t.Error("of the empty table", got, ok)
	}
}

// P17
func TestUpdatesChangeExistingValuesOnly(t *testing.T) {
	for _, table := range edgeTables() {
		for _, r := range edgeChanges() {
			want := changedWhere(table, r, func(old string) string {
				if old == "" {
					return ""
				}
				return r.Text
			})
			got, ok := impl.RelUpdate(table, r)
			wantTable(t, "update", table, r, got, ok, want, true)
			for _, key := range edgeKeys {
				if !slices.Equal(impl.RelSpans(got, key), impl.RelSpans(table, key)) {
					t.Error("spans", table, r, key)
				}
			}
		}
	}
}

func TestRelUpdateAtEdges(t *testing.T) {
	table := rows(row("a", "x", 0, 20), row("a", "y", 20, 30), row("a", "x", 30, 40), row("a", "x", 90, 100))
	for _, c := range []struct {
		r    impl.Row
		want []impl.Row
	}{
		{row("a", "z", 8, 12), rows(row("a", "x", 0, 8), row("a", "z", 8, 12), row("a", "x", 12, 20), row("a", "y", 20, 30), row("a", "x", 30, 40), row("a", "x", 90, 100))},
		{row("a", "x", 20, 30), rows(row("a", "x", 0, 40), row("a", "x", 90, 100))},
		{row("a", "x", 22, 24), rows(row("a", "x", 0, 20), row("a", "y", 20, 22), row("a", "x", 22, 24), row("a", "y", 24, 30), row("a", "x", 30, 40), row("a", "x", 90, 100))},
		{row("a", "y", 15, 100), rows(row("a", "x", 0, 15), row("a", "y", 15, 40), row("a", "y", 90, 100))},
		{row("a", "z", 35, 95), rows(row("a", "x", 0, 20), row("a", "y", 20, 30), row("a", "x", 30, 35), row("a", "z", 35, 40), row("a", "z", 90, 95), row("a", "x", 95, 100))},
		{row("a", "z", 99, 100), rows(row("a", "x", 0, 20), row("a", "y", 20, 30), row("a", "x", 30, 40), row("a", "x", 90, 99), row("a", "z", 99, 100))},
		{row("a", "z", 40, 90), table},
		{row("b", "z", 0, 100), table},
		{row("a", "x", 0, 20), table},
	} {
		if got, ok := impl.RelUpdate(table, c.r); !ok || !slices.Equal(got, c.want) {
			t.Error(c, got, ok)
		}
	}
	if got, ok := impl.RelUpdate(nil, row("a", "x", 0, 100)); !ok || len(got) != 0 {
		t.Error("of the empty table", got, ok)
	}
}

// P18
func TestMergingOverwrites(t *testing.T) {
	for _, table := range edgeTables() {
		for _, r := range edgeChanges() {
			want := changedWhere(table, r, func(string) string { return r.Text })
			got, ok := impl.RelMerge(table, r)
			wantTable(t, "merge", table, r, got, ok, want, true)
			if again, ok := impl.RelMerge(got, r); !ok || !slices.Equal(again, got) {
				t.Error("merging again", table, r, again)
			}
		}
	}
}

func TestRelMergeAtEdges(t *testing.T) {
	table := rows(row("a", "x", 0, 20), row("a", "y", 20, 30), row("a", "x", 35, 40))
	for _, c := range []struct {
		r    impl.Row
		want []impl.Row
	}{
		{row("a", "z", 8, 12), rows(row("a", "x", 0, 8), row("a", "z", 8, 12), row("a", "x", 12, 20), row("a", "y", 20, 30), row("a", "x", 35, 40))},
		{row("a", "x", 20, 35), rows(row("a", "x", 0, 40))},
		{row("a", "y", 10, 37), rows(row("a", "x", 0, 10), row("a", "y", 10, 37), row("a", "x", 37, 40))},
		{row("a", "x", 40, 100), rows(row("a", "x", 0, 20), row("a", "y", 20, 30), row("a", "x", 35, 100))},
		{row("a", "z", 0, 100), rows(row("a", "z", 0, 100))},
		{row("a", "x", 5, 6), table},
		{row("b", "x", 99, 100), append(slices.Clone(table), row("b", "x", 99, 100))},
	} {
		if got, ok := impl.RelMerge(table, c.r); !ok || !slices.Equal(got, c.want) {
			t.Error(c, got, ok)
		}
	}
	if got, ok := impl.RelMerge(nil, row("a", "x", 0, 100)); !ok || !slices.Equal(got, rows(row("a", "x", 0, 100))) {
		t.Error("into the empty table", got, ok)
	}
}

// P19
func TestShiftingATableShiftsItsSnapshots(t *testing.T) {
	for i, table := range edgeTables() {
		for by := -impl.TimeMax + i%3; by <= impl.TimeMax; by += 3 {
			got := impl.RelMove(table, by)
			want := tableWhere(edgeKeys, func(key string, at int) string { return textOf(table, key, at-by) })
			if !slices.Equal(got, want) || !impl.RelOk(got) {
				t.Error(table, by, got)
			}
			for at := 0; at <= impl.TimeMax; at++ {
				if !slices.Equal(impl.RelAt(got, at), impl.RelAt(table, at-by)) {
					t.Error(table, by, at)
				}
			}
		}
	}
}

func TestRelMoveAtEdges(t *testing.T) {
	table := rows(row("a", "x", 0, 20), row("a", "y", 20, 21), row("b", "y", 99, 100))
	for _, c := range []struct {
		by   int
		want []impl.Row
	}{
		{0, table},
		{1, rows(row("a", "x", 1, 21), row("a", "y", 21, 22))},
		{79, rows(row("a", "x", 79, 99), row("a", "y", 99, 100))},
		{80, rows(row("a", "x", 80, 100))},
		{99, rows(row("a", "x", 99, 100))},
		{-1, rows(row("a", "x", 0, 19), row("a", "y", 19, 20), row("b", "y", 98, 99))},
		{-20, rows(row("a", "y", 0, 1), row("b", "y", 79, 80))},
		{-21, rows(row("b", "y", 78, 79))},
		{-99, rows(row("b", "y", 0, 1))},
	} {
		if got := impl.RelMove(table, c.by); !slices.Equal(got, c.want) {
			t.Error(c, got)
		}
	}
	for _, by := range []int{100, -100, math.MaxInt, math.MinInt} {
		if len(impl.RelMove(table, by)) != 0 || len(impl.RelMove(rows(row("a", "x", 0, 100)), by)) != 0 {
			t.Error("out of bounds", by)
		}
	}
	if len(impl.RelMove(rows(row("a", "x", 0, 99)), -99)) != 0 || len(impl.RelMove(nil, 5)) != 0 {
		t.Error("nothing is left")
	}
}

func TestChangesRejectBadTables(t *testing.T) {
	for _, table := range badTables() {
		for _, r := range append(badRows(), row("a", "x", 90, 95), row("b", "y", 0, 100), row("a", "x", 0, 100)) {
			if got, ok := impl.RelInsert(table, r); ok || len(got) != 0 {
				t.Error("insert", table, r, got, ok)
			}
			if got, ok := impl.RelDelete(table, r.Key, r.Span); ok || len(got) != 0 {
				t.Error("delete", table, r, got, ok)
			}
			if got, ok := impl.RelUpdate(table, r); ok || len(got) != 0 {
				t.Error("update", table, r, got, ok)
			}
			if got, ok := impl.RelMerge(table, r); ok || len(got) != 0 {
				t.Error("merge", table, r, got, ok)
			}
		}
		for _, by := range []int{0, 1, -1, 99, -99, 100, -100} {
			if got := impl.RelMove(table, by); len(got) != 0 {
				t.Error("move", table, by, got)
			}
		}
	}
}

func TestChangesRejectBadRows(t *testing.T) {
	for _, table := range [][]impl.Row{nil, rows(row("a", "x", 50, 60)), rows(row("a", "x", 0, 100), row("b", "y", 4, 7)), scattered("a", impl.RowsMax)} {
		for _, r := range badRows() {
			if got, ok := impl.RelInsert(table, r); ok || !slices.Equal(got, table) {
				t.Error("insert", table, r, got, ok)
			}
			if got, ok := impl.RelUpdate(table, r); ok || !slices.Equal(got, table) {
				t.Error("update", table, r, got, ok)
			}
			if got, ok := impl.RelMerge(table, r); ok || !slices.Equal(got, table) {
				t.Error("merge", table, r, got, ok)
			}
		}
		for _, s := range badSpans() {
			if got, ok := impl.RelDelete(table, "a", s); ok || !slices.Equal(got, table) {
				t.Error("delete", table, s, got, ok)
			}
		}
		for _, word := range badWords() {
			if got, ok := impl.RelDelete(table, word, span(0, 100)); ok || !slices.Equal(got, table) {
				t.Error("delete", table, word, got, ok)
			}
		}
	}
}

// The rows of scattered are four points apart, three points long, and have the text x.
func TestChangesOfFullTables(t *testing.T) {
	type outcome struct {
		name  string
		table []impl.Row
		ok    bool
		many  int
		call  func(table []impl.Row) ([]impl.Row, bool)
	}
	insert := func(r impl.Row) func(table []impl.Row) ([]impl.Row, bool) {
		return func(table []impl.Row) ([]impl.Row, bool) { return impl.RelInsert(table, r) }
	}
	remove := func(key string, s impl.Span) func(table []impl.Row) ([]impl.Row, bool) {
		return func(table []impl.Row) ([]impl.Row, bool) { return impl.RelDelete(table, key, s) }
	}
	update := func(r impl.Row) func(table []impl.Row) ([]impl.Row, bool) {
		return func(table []impl.Row) ([]impl.Row, bool) { return impl.RelUpdate(table, r) }
	}
	merge := func(r impl.Row) func(table []impl.Row) ([]impl.Row, bool) {
		return func(table []impl.Row) ([]impl.Row, bool) { return impl.RelMerge(table, r) }
	}
	for _, c := range []outcome{
		{"insert one more", scattered("a", 24), false, 24, insert(row("b", "x", 0, 1))},
		{"insert the last", scattered("a", 23), true, 24, insert(row("b", "x", 0, 1))},
		{"insert between two", scattered("a", 24), true, 23, insert(row("a", "x", 3, 4))},
		{"insert next to one", scattered("a", 24), true, 24, insert(row("a", "x", 95, 100))},
		{"insert another text between two", scattered("a", 24), false, 24, insert(row("a", "y", 3, 4))},
		{"delete in the midst", scattered("a", 24), false, 24, remove("a", span(1, 2))},
		{"delete in the midst up to the limit", scattered("a", 23), true, 24, remove("a", span(1, 2))},
		{"delete an end", scattered("a", 24), true, 24, remove("a", span(0, 2))},
		{"delete a row", scattered("a", 24), true, 23, remove("a", span(0, 3))},
		{"update in the midst", scattered("a", 23), false, 23, update(row("a", "y", 1, 2))},
		{"update in the midst up to the limit", scattered("a", 22), true, 24, update(row("a", "y", 1, 2))},
		{"update an end", scattered("a", 24), false, 24, update(row("a", "y", 0, 2))},
		{"update a row", scattered("a", 24), true, 24, update(row("a", "y", 0, 3))},
		{"update to the same", scattered("a", 24), true, 24, update(row("a", "x", 1, 2))},
		{"merge in the midst", scattered("a", 23), false, 23, merge(row("a", "y", 1, 2))},
		{"merge in the midst up to the limit", scattered("a", 22), true, 24, merge(row("a", "y", 1, 2))},
		{"merge one more", scattered("a", 24), false, 24, merge(row("b", "x", 0, 1))},
		{"merge across all", scattered("a", 24), true, 1, merge(row("a", "y", 0, 100))},
		{"merge between two", scattered("a", 24), true, 23, merge(row("a", "x", 2, 5))},
	} {
		got, ok := c.call(c.table)
		if ok != c.ok || len(got) != c.many || !impl.RelOk(got) || !ok && !slices.Equal(got, c.table) {
			t.Error(c.name, got, ok)
		}
	}
	if got := impl.RelMove(scattered("a", 24), 2); len(got) != 24 {
		t.Error("move", got)
	}
}

// roomyRows leaves spare capacity behind a list, where a careless append would write.
func roomyRows(list []impl.Row) []impl.Row {
	more := make([]impl.Row, len(list), len(list)+8)
	copy(more, list)
	return more
}

func TestTableResultsShareNoMemory(t *testing.T) {
	first := func(list []impl.Row, ok bool) []impl.Row { return list }
	for name, call := range map[string]func(table []impl.Row) []impl.Row{
		"RelOf":             impl.RelOf,
		"RelInsert":         func(a []impl.Row) []impl.Row { return first(impl.RelInsert(a, row("c", "x", 1, 2))) },
		"RelInsert there":   func(a []impl.Row) []impl.Row { return first(impl.RelInsert(a, row("a", "x", 1, 20))) },
		"RelInsert bad":     func(a []impl.Row) []impl.Row { return first(impl.RelInsert(a, row("", "x", 1, 20))) },
		"RelDelete":         func(a []impl.Row) []impl.Row { return first(impl.RelDelete(a, "a", span(3, 4))) },
		"RelDelete nothing": func(a []impl.Row) []impl.Row { return first(impl.RelDelete(a, "q", span(3, 4))) },
		"RelDelete bad":     func(a []impl.Row) []impl.Row { return first(impl.RelDelete(a, "a", span(4, 4))) },
		"RelUpdate":         func(a []impl.Row) []impl.Row { return first(impl.RelUpdate(a, row("a", "y", 3, 4))) },
		"RelUpdate nothing": func(a []impl.Row) []impl.Row { return first(impl.RelUpdate(a, row("q", "y", 3, 4))) },
		"RelUpdate bad":     func(a []impl.Row) []impl.Row { return first(impl.RelUpdate(a, row("a", "", 3, 4))) },
		"RelMerge":          func(a []impl.Row) []impl.Row { return first(impl.RelMerge(a, row("a", "y", 3, 4))) },
		"RelMerge bad":      func(a []impl.Row) []impl.Row { return first(impl.RelMerge(a, row("a", "y", 3, 3))) },
		"RelMove":           func(a []impl.Row) []impl.Row { return impl.RelMove(a, 1) },
		"RelMove by 0":      func(a []impl.Row) []impl.Row { return impl.RelMove(a, 0) },
	} {
		for _, list := range [][]impl.Row{
			rows(row("a", "x", 1, 9), row("a", "x", 20, 30), row("b", "y", 1, 9)),
			rows(row("b", "x", 1, 9), row("a", "x", 9, 12), row("a", "x", 1, 9)),
			rows(),
		} {
			table := roomyRows(list)
			whole := slices.Clone(table[:cap(table)])
			got := call(table)
			if !slices.Equal(table[:cap(table)], whole) {
				t.Error(name, "changes its argument", table)
			}
			for i := range got[:cap(got)] {
				got[:cap(got)][i] = row("q", "q", 77, 88)
			}
			if !slices.Equal(table[:cap(table)], whole) {
				t.Error(name, "shares memory", table)
			}
		}
	}
}
