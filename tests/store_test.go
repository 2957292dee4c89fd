package tests

import (
	"math"
	"slices"
	"strconv"
	"strings"
	"testing"

	"loop.example/varve/impl"
)

func ver(r impl.Row, in int, out int) impl.Ver {
	return impl.Ver{Row: r, In: in, Out: out}
}

func store(now int, vers ...impl.Ver) impl.Store {
	return impl.Store{Now: now, Vers: vers}
}

func sameStore(a impl.Store, b impl.Store) bool {
	return a.Now == b.Now && slices.Equal(a.Vers, b.Vers)
}

// stateOf is the tests' own reading of a store, in the order of a table.
func stateOf(s impl.Store, stamp int) []impl.Row {
	var list []impl.Row
	for _, v := range s.Vers {
		if v.In <= min(stamp, s.Now) && v.Out > min(stamp, s.Now) {
			list = append(list, v.Row)
		}
	}
	slices.SortFunc(list, func(a impl.Row, b impl.Row) int {
		if a.Key != b.Key {
			return strings.Compare(a.Key, b.Key)
		}
		return a.Span.From - b.Span.From
	})
	return list
}

// rowsOnlyIn keeps the order of the first list.
func rowsOnlyIn(list []impl.Row, other []impl.Row) []impl.Row {
	var only []impl.Row
	for _, r := range list {
		if !slices.Contains(other, r) {
			only = append(only, r)
		}
	}
	return only
}

// storeAfter is what StoreSet has to make of a valid store and a table.
func storeAfter(s impl.Store, table []impl.Row) (impl.Store, bool) {
	next := impl.Store{Now: s.Now + 1}
	for _, v := range s.Vers {
		if v.Out == impl.Forever && !slices.Contains(table, v.Row) {
			v.Out = s.Now + 1
		}
		next.Vers = append(next.Vers, v)
	}
	for _, r := range rowsOnlyIn(table, stateOf(s, s.Now)) {
		next.Vers = append(next.Vers, ver(r, s.Now+1, impl.Forever))
	}
	if next.Now > impl.StampMax || len(next.Vers) > impl.VersMax {
		return s, false
	}
	return next, true
}

// histories have tables that share rows, that come again behind other ones and
// behind the empty one, and that are set again unchanged.
func histories() [][][]impl.Row {
	list := [][][]impl.Row{nil, {nil}, {nil, nil, nil}}
	tables := edgeTables()
	for i := 0; i < len(tables); i += 5 {
		a, b, c := tables[i], tables[(7*i+3)%len(tables)], tables[(i+1)%len(tables)]
		list = append(list, [][]impl.Row{a, b, a, a, nil, a, c, b, b, nil})
	}
	return append(list, slices.Repeat([][]impl.Row{tables[200], tables[100]}, 15))
}

// oddStores are valid ones that no sequence of StoreSet makes.
func oddStores() []impl.Store {
	return []impl.Store{
		store(3, ver(row("a", "x", 0, 9), 1, 2), ver(row("a", "x", 0, 9), 2, 3), ver(row("a", "x", 0, 9), 3, impl.Forever)),
		store(2, ver(row("b", "x", 5, 9), 1, impl.Forever), ver(row("b", "x", 0, 4), 1, 2), ver(row("a", "x", 0, 9), 1, impl.Forever)),
		store(4, ver(row("a", "x", 0, 9), 1, 3), ver(row("a", "y", 0, 9), 3, 4), ver(row("a", "x", 5, 100), 4, impl.Forever)),
		store(30, ver(row("b", "x", 5, 9), 30, impl.Forever), ver(row("a", "x", 5, 9), 30, impl.Forever)),
		store(30),
	}
}

func goodStores(t *testing.T) []impl.Store {
	t.Helper()
	list := oddStores()
	for _, history := range histories() {
		s, ok := impl.StoreAll(history)
		if !ok {
			t.Fatal("StoreAll", history)
		}
		list = append(list, s)
	}
	return list
}

// fullTable has RowsMax rows; no two texts have a row in common.
func fullTable(text string) []impl.Row {
	list := scattered("a", impl.RowsMax)
	for i := range list {
		list[i].Text = text
	}
	return list
}

func someStamps(s impl.Store) []int {
	list := []int{math.MinInt, -impl.Forever, -2, -1, s.Now + 1, s.Now + 2, impl.StampMax + 1, impl.Forever - 1, impl.Forever, impl.Forever + 1, math.MaxInt}
	for stamp := range s.Now + 1 {
		list = append(list, stamp)
	}
	return list
}

func badStores() []impl.Store {
	a, b := row("a", "x", 0, 9), row("b", "x", 0, 9)
	list := []impl.Store{
		store(-1), store(31), store(math.MinInt), store(math.MaxInt), store(impl.Forever),
		store(0, ver(a, 0, impl.Forever)), store(0, ver(a, 1, impl.Forever)),
		store(3, ver(a, 0, impl.Forever)), store(3, ver(a, -1, impl.Forever)), store(3, ver(a, 4, impl.Forever)),
		store(3, ver(a, math.MinInt, 2)), store(3, ver(a, impl.Forever-1, impl.Forever)),
		store(3, ver(a, 2, 3), ver(b, 1, 3)), store(3, ver(a, 1, 2), ver(b, 3, impl.Forever), ver(a, 2, 3)),
		store(3, ver(a, 2, 2)), store(3, ver(a, 2, 1)), store(3, ver(a, 2, 0)), store(3, ver(a, 2, math.MinInt)),
		store(3, ver(a, 2, 4)), store(3, ver(a, 2, 31)), store(3, ver(a, 2, impl.Forever-1)), store(3, ver(a, 2, impl.Forever+1)), store(3, ver(a, 2, math.MaxInt)),
		store(3, ver(a, 1, impl.Forever), ver(a, 1, impl.Forever)),
		store(3, ver(a, 1, impl.Forever), ver(a, 3, impl.Forever)),
		store(3, ver(a, 1, 3), ver(a, 2, impl.Forever)),
		store(3, ver(a, 1, 2), ver(row("a", "y", 8, 12), 1, 2)),
		store(3, ver(a, 2, 3), ver(row("a", "x", 9, 12), 2, impl.Forever)),
		store(3, ver(row("a", "x", 9, 12), 1, impl.Forever), ver(a, 3, impl.Forever)),
		store(1, versOf(scattered("a", impl.RowsMax+1), 1, impl.Forever)...),
		store(3, versOf(scattered("a", impl.RowsMax+1), 2, 3)...),
	}
	for _, r := range badRows() {
		list = append(list, store(1, ver(r, 1, impl.Forever)), store(3, ver(a, 1, 2), ver(r, 2, 3)))
	}
	return append(list, storeOfVers(impl.VersMax+1))
}

func versOf(list []impl.Row, in int, out int) []impl.Ver {
	var vers []impl.Ver
	for _, r := range list {
		vers = append(vers, ver(r, in, out))
	}
	return vers
}

// storeOfVers has as many versions as wanted, and RowsMax rows at most stamps.
func storeOfVers(many int) impl.Store {
	s := store(impl.StampMax)
	for i := range many {
		in := i/impl.RowsMax + 1
		s.Vers = append(s.Vers, ver(scattered("a", impl.RowsMax)[i%impl.RowsMax], in, in+1))
	}
	return s
}

func TestStoreOk(t *testing.T) {
	for _, s := range append(goodStores(t), impl.Store{}, store(impl.StampMax), storeOfVers(impl.VersMax),
		store(1, versOf(scattered("a", impl.RowsMax), 1, impl.Forever)...),
		store(3, ver(row("a", "x", 0, 9), 1, 3)), store(3, ver(row("a", "x", 0, 9), 3, impl.Forever)),
		store(3, ver(row("a", "x", 0, 9), 1, 2), ver(row("a", "x", 9, 12), 2, impl.Forever))) {
		if !impl.StoreOk(s) {
			t.Error("is valid", s)
		}
	}
	for _, s := range badStores() {
		if impl.StoreOk(s) {
			t.Error("is not valid", s)
		}
	}
}

// checkNext says what P28 does of a valid store that a table is set to, and that
// the result is the only one.
func checkNext(t *testing.T, s impl.Store, table []impl.Row, got impl.Store, ok bool) {
	t.Helper()
	want, wantOk := storeAfter(s, table)
	if ok != wantOk || !sameStore(got, want) || !impl.StoreOk(got) {
		t.Error(s, table, "is", got, ok, "and not", want, wantOk)
	}
	for stamp := range s.Now + 1 {
		if !slices.Equal(impl.StoreAt(got, stamp), stateOf(s, stamp)) {
			t.Error("history", s, table, stamp)
		}
	}
	if ok && (got.Now != s.Now+1 || !slices.Equal(impl.StoreAt(got, got.Now), table)) {
		t.Error("now", s, table, got)
	}
}

// P28
func TestHistoryIsNeverChanged(t *testing.T) {
	tables := edgeTables()
	for i, s := range goodStores(t) {
		for _, table := range [][]impl.Row{nil, tables[i], tables[242-i], stateOf(s, s.Now), stateOf(s, 1), fullTable("y")} {
			got, ok := impl.StoreSet(s, table)
			checkNext(t, s, table, got, ok)
		}
	}
}

func TestStoreSetAtEdges(t *testing.T) {
	a, b, c := row("a", "x", 0, 9), row("b", "y", 1, 2), row("c", "x", 0, 100)
	s := impl.Store{}
	for i, step := range []struct {
		table []impl.Row
		want  []impl.Ver
	}{
		{rows(a, b), []impl.Ver{ver(a, 1, 999), ver(b, 1, 999)}},
		{rows(b), []impl.Ver{ver(a, 1, 2), ver(b, 1, 999)}},
		{rows(b), []impl.Ver{ver(a, 1, 2), ver(b, 1, 999)}},
		{rows(a, b, c), []impl.Ver{ver(a, 1, 2), ver(b, 1, 999), ver(a, 4, 999), ver(c, 4, 999)}},
		{nil, []impl.Ver{ver(a, 1, 2), ver(b, 1, 5), ver(a, 4, 5), ver(c, 4, 5)}},
		{nil, []impl.Ver{ver(a, 1, 2), ver(b, 1, 5), ver(a, 4, 5), ver(c, 4, 5)}},
		{rows(row("a", "y", 0, 9)), []impl.Ver{ver(a, 1, 2), ver(b, 1, 5), ver(a, 4, 5), ver(c, 4, 5), ver(row("a", "y", 0, 9), 7, 999)}},
		{rows(row("a", "y", 0, 8)), []impl.Ver{ver(a, 1, 2), ver(b, 1, 5), ver(a, 4, 5), ver(c, 4, 5), ver(row("a", "y", 0, 9), 7, 8), ver(row("a", "y", 0, 8), 8, 999)}},
	} {
		next, ok := impl.StoreSet(s, step.table)
		if !ok || !sameStore(next, store(i+1, step.want...)) {
			t.Error(s, step.table, next, ok)
		}
		s = next
	}
}

func TestStoreSetRejectsBadTables(t *testing.T) {
	s, _ := impl.StoreAll([][]impl.Row{rows(row("a", "x", 0, 9)), rows(row("b", "x", 0, 9))})
	for _, table := range badTables() {
		if got, ok := impl.StoreSet(s, table); ok || !sameStore(got, s) {
			t.Error(table, got, ok)
		}
		if got, ok := impl.StoreAll([][]impl.Row{nil, table, nil}); ok || !sameStore(got, impl.Store{}) {
			t.Error("StoreAll", table, got, ok)
		}
	}
}

func TestStoresAtTheLastStamp(t *testing.T) {
	table := rows(row("a", "x", 0, 9))
	list := slices.Repeat([][]impl.Row{nil, table}, impl.StampMax/2)
	s, ok := impl.StoreAll(list)
	if !ok || s.Now != impl.StampMax || !slices.Equal(impl.StoreAt(s, impl.StampMax), table) {
		t.Error("as many tables as stamps", s, ok)
	}
	for _, next := range [][]impl.Row{nil, table, rows(row("b", "x", 0, 9))} {
		if got, ok := impl.StoreSet(s, next); ok || !sameStore(got, s) {
			t.Error("no stamp is left", got, ok)
		}
		if got, ok := impl.StoreAll(append(slices.Clone(list), next)); ok || !sameStore(got, impl.Store{}) {
			t.Error("one table too many", got, ok)
		}
	}
	if got, ok := impl.StoreAll(nil); !ok || !sameStore(got, impl.Store{}) {
		t.Error("no table", got, ok)
	}
}

func TestStoresOfManyVersions(t *testing.T) {
	var list [][]impl.Row
	for i := range impl.VersMax/impl.RowsMax - 1 {
		list = append(list, fullTable(strconv.Itoa(i)))
	}
	most := append(slices.Clone(list), fullTable("y")[1:])
	s, ok := impl.StoreAll(most)
	if !ok || len(s.Vers) != impl.VersMax-1 {
		t.Fatal("one less", len(s.Vers), ok)
	}
	one := append(fullTable("y")[1:], row("b", "x", 0, 1))
	two := append(slices.Clone(one), row("c", "x", 0, 1))[1:]
	if got, ok := impl.StoreSet(s, two); ok || !sameStore(got, s) {
		t.Error("two more", len(got.Vers), ok)
	}
	if got, ok := impl.StoreAll(append(slices.Clone(most), two)); ok || !sameStore(got, impl.Store{}) {
		t.Error("StoreAll with two more", len(got.Vers), ok)
	}
	full, ok := impl.StoreSet(s, one)
	if !ok || len(full.Vers) != impl.VersMax {
		t.Fatal("one more", len(full.Vers), ok)
	}
	for _, table := range [][]impl.Row{one, one[3:], nil} {
		if got, ok := impl.StoreSet(full, table); !ok || len(got.Vers) != impl.VersMax || !slices.Equal(impl.StoreAt(got, 7), table) {
			t.Error("nothing is added", table, len(got.Vers), ok)
		}
	}
	if got, ok := impl.StoreSet(full, rows(row("d", "x", 0, 1))); ok || !sameStore(got, full) {
		t.Error("one too many", len(got.Vers), ok)
	}
}

// P29
func TestEveryStateIsATable(t *testing.T) {
	for _, s := range goodStores(t) {
		for _, stamp := range someStamps(s) {
			got := impl.StoreAt(s, stamp)
			many := 0
			for _, v := range s.Vers {
				if v.In <= min(stamp, s.Now) && v.Out > min(stamp, s.Now) {
					many++
				}
			}
			if !impl.RelOk(got) || len(got) != many || stamp <= 0 && len(got) > 0 || !slices.Equal(got, stateOf(s, stamp)) {
				t.Error(s, stamp, got)
			}
		}
	}
}

func TestStoreAtEdges(t *testing.T) {
	a, b := row("a", "x", 0, 9), row("b", "x", 0, 9)
	s := store(3, ver(b, 1, impl.Forever), ver(a, 2, 3))
	for stamp, want := range map[int][]impl.Row{
		math.MinInt: nil, -1: nil, 0: nil, 1: rows(b), 2: rows(a, b), 3: rows(b), 4: rows(b), 30: rows(b), 31: rows(b),
		998: rows(b), 999: rows(b), 1000: rows(b), math.MaxInt: rows(b),
	} {
		if got := impl.StoreAt(s, stamp); !slices.Equal(got, want) {
			t.Error(stamp, got)
		}
	}
}

// P30
func TestAStoreContainsAllItsStates(t *testing.T) {
	for _, history := range histories() {
		s, ok := impl.StoreAll(history)
		if !ok || s.Now != len(history) || !impl.StoreOk(s) || len(impl.StoreAt(s, 0)) > 0 {
			t.Error(history, s, ok)
		}
		for i, table := range history {
			if got := impl.StoreAt(s, i+1); !slices.Equal(got, table) {
				t.Error(history, i, got)
			}
		}
		want := impl.Store{}
		for _, table := range history {
			want, _ = storeAfter(want, table)
		}
		if !sameStore(s, want) {
			t.Error(history, s, "and not", want)
		}
	}
}

// P31
func TestStoreDiffTransformsOneStateIntoTheOther(t *testing.T) {
	for _, s := range goodStores(t) {
		for _, a := range someStamps(s) {
			for _, b := range someStamps(s) {
				before, after := stateOf(s, a), stateOf(s, b)
				gone, come := impl.StoreDiff(s, a, b)
				if !slices.Equal(gone, rowsOnlyIn(before, after)) || !slices.Equal(come, rowsOnlyIn(after, before)) {
					t.Error(s, a, b, gone, come)
				}
				if len(before)-len(gone)+len(come) != len(after) {
					t.Error("rows", s, a, b, gone, come)
				}
				if back, forth := impl.StoreDiff(s, b, a); !slices.Equal(back, come) || !slices.Equal(forth, gone) {
					t.Error("exchanged", s, a, b)
				}
			}
		}
	}
}

func TestStoreDiffComparesWholeRows(t *testing.T) {
	same := row("k", "x", 5, 6)
	s, _ := impl.StoreAll([][]impl.Row{
		rows(row("a", "x", 0, 9), row("b", "x", 0, 9), row("c", "x", 0, 9), same),
		rows(row("a", "y", 0, 9), row("b", "x", 0, 8), row("c", "x", 1, 9), same),
		nil,
		rows(row("a", "x", 0, 9), same),
	})
	for _, c := range []struct {
		a, b       int
		gone, come []impl.Row
	}{
		{1, 2, rows(row("a", "x", 0, 9), row("b", "x", 0, 9), row("c", "x", 0, 9)), rows(row("a", "y", 0, 9), row("b", "x", 0, 8), row("c", "x", 1, 9))},
		{1, 4, rows(row("b", "x", 0, 9), row("c", "x", 0, 9)), nil},
		{0, 4, nil, rows(row("a", "x", 0, 9), same)},
		{99, -7, rows(row("a", "x", 0, 9), same), nil},
		{3, 0, nil, nil},
		{4, 5, nil, nil},
	} {
		if gone, come := impl.StoreDiff(s, c.a, c.b); !slices.Equal(gone, c.gone) || !slices.Equal(come, c.come) {
			t.Error(c, gone, come)
		}
	}
}

func rowsOfKey(list []impl.Row, key string) []impl.Row {
	return slices.DeleteFunc(list, func(r impl.Row) bool { return r.Key != key })
}

// P32
func TestStoreLastIsTheLastChangeOfAKey(t *testing.T) {
	for _, history := range histories() {
		s, _ := impl.StoreAll(history)
		for _, key := range append([]string{"", "-"}, edgeKeys...) {
			last := impl.StoreLast(s, key)
			now := rowsOfKey(stateOf(s, s.Now), key)
			for stamp := last; stamp <= s.Now; stamp++ {
				if !slices.Equal(rowsOfKey(stateOf(s, stamp), key), now) {
					t.Error("changes later", s, key, last, stamp)
				}
			}
			if last < 0 || last > 0 && slices.Equal(rowsOfKey(stateOf(s, last-1), key), now) {
				t.Error("does not change", s, key, last)
			}
		}
	}
}

func TestStoreLastAtEdges(t *testing.T) {
	s := store(9,
		ver(row("a", "x", 0, 9), 1, 2), ver(row("b", "x", 0, 9), 1, 7), ver(row("b", "y", 20, 30), 2, impl.Forever), ver(row("a", "x", 0, 9), 3, impl.Forever),
		ver(row("c", "x", 0, 9), 4, 9), ver(row("c", "x", 20, 30), 5, 6), ver(row("d", "x", 0, 9), 9, impl.Forever))
	for key, want := range map[string]int{"a": 3, "b": 7, "c": 9, "d": 9, "e": 0, "": 0, "A": 0, "aa": 0} {
		if got := impl.StoreLast(s, key); got != want {
			t.Error(key, got, want)
		}
	}
	if got := impl.StoreLast(impl.Store{}, "a"); got != 0 {
		t.Error("of the empty store", got)
	}
	odd := store(3, ver(row("a", "x", 0, 9), 1, 3), ver(row("a", "x", 0, 9), 3, impl.Forever))
	if got := impl.StoreLast(odd, "a"); got != 3 {
		t.Error("a row that goes and comes at one stamp", got)
	}
}

func TestStoresRejectBadStores(t *testing.T) {
	for _, s := range badStores() {
		for _, table := range [][]impl.Row{nil, rows(row("a", "x", 0, 9)), rows(row("a", "x", 9, 9))} {
			if got, ok := impl.StoreSet(s, table); ok || !sameStore(got, impl.Store{}) {
				t.Error("StoreSet", s, got, ok)
			}
		}
		for _, stamp := range []int{-1, 0, 1, 2, 3, impl.Forever} {
			if got := impl.StoreAt(s, stamp); len(got) > 0 {
				t.Error("StoreAt", s, got)
			}
			if gone, come := impl.StoreDiff(s, 0, stamp); len(gone) > 0 || len(come) > 0 {
				t.Error("StoreDiff", s, gone, come)
			}
		}
		for _, key := range []string{"a", "b", "q", ""} {
			if got := impl.StoreLast(s, key); got != -1 {
				t.Error("StoreLast", s, got)
			}
		}
	}
}

// roomyStore leaves spare capacity behind the versions.
func roomyStore(s impl.Store) impl.Store {
	vers := make([]impl.Ver, len(s.Vers), len(s.Vers)+8)
	copy(vers, s.Vers)
	return impl.Store{Now: s.Now, Vers: vers}
}

func scribble[T any](list []T, with T) {
	list = list[:cap(list)]
	for i := range list {
		list[i] = with
	}
}

func TestStoreResultsShareNoMemory(t *testing.T) {
	noRow, noVer := row("q", "q", 77, 88), ver(row("q", "q", 77, 88), 7, 8)
	made, _ := impl.StoreAll([][]impl.Row{rows(row("a", "x", 0, 9)), rows(row("a", "x", 0, 9), row("b", "x", 0, 9))})
	last := store(30, ver(row("a", "x", 0, 9), 1, impl.Forever))
	for _, one := range []impl.Store{made, last, {}, storeOfVers(impl.VersMax)} {
		for _, list := range [][]impl.Row{nil, rows(row("a", "x", 0, 9)), fullTable("z"), rows(row("a", "x", 0, 0))} {
			s, table := roomyStore(one), roomyRows(list)
			wholeVers, wholeRows := slices.Clone(s.Vers[:cap(s.Vers)]), slices.Clone(table[:cap(table)])
			next, _ := impl.StoreSet(s, table)
			all, _ := impl.StoreAll([][]impl.Row{table, table})
			gone, come := impl.StoreDiff(s, 1, 2)
			gone2, come2 := slices.Clone(gone), slices.Clone(come)
			back, forth := impl.StoreDiff(s, 2, 1)
			for _, got := range []impl.Store{next, all} {
				scribble(got.Vers, noVer)
			}
			for _, got := range [][]impl.Row{impl.StoreAt(s, 1), impl.StoreAt(s, 2), back, forth} {
				scribble(got, noRow)
			}
			if !slices.Equal(s.Vers[:cap(s.Vers)], wholeVers) || !slices.Equal(table[:cap(table)], wholeRows) {
				t.Error("an argument has changed", one, list)
			}
			scribble(gone, noRow)
			if !slices.Equal(come, come2) {
				t.Error("the results of StoreDiff share memory", one)
			}
			gone, come = impl.StoreDiff(s, 1, 2)
			scribble(come, noRow)
			if !slices.Equal(gone, gone2) {
				t.Error("the results of StoreDiff share memory", one)
			}
		}
	}
}
