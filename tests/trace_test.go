package tests

import (
	"math"
	"slices"
	"strconv"
	"testing"

	"loop.example/varve/impl"
)

func traces(list ...impl.Trace) []impl.Trace {
	return list
}

func trace(stamp int, text string) impl.Trace {
	return impl.Trace{Stamp: stamp, Text: text}
}

// traceWanted is the history of a key at a point, state by state.
func traceWanted(s impl.Store, key string, at int) []impl.Trace {
	var list []impl.Trace
	for stamp := 1; stamp <= s.Now; stamp++ {
		before, now := textOf(stateOf(s, stamp-1), key, at), textOf(stateOf(s, stamp), key, at)
		if now != before {
			list = append(list, trace(stamp, now))
		}
	}
	return list
}

// traceKeys has keys of edgeTables, and some that are none.
func traceKeys() []string {
	return append([]string{"", "-", "aa", "A"}, edgeKeys...)
}

func tracePoints() []int {
	return []int{math.MinInt, -1, 0, 1, 2, 49, 50, 98, 99, 100, 101, math.MaxInt}
}

// P57
func TestATraceHasTheValueAtEveryStamp(t *testing.T) {
	long := 0
	for _, s := range goodStores(t) {
		for _, key := range traceKeys() {
			for _, at := range tracePoints() {
				got := impl.TraceOf(s, key, at)
				if want := traceWanted(s, key, at); !slices.Equal(got, want) {
					t.Error("TraceOf", s, key, at, "is", got, "and not", want)
				}
				for i, one := range got {
					if i == 0 && one.Text == "" || i > 0 && (one.Stamp <= got[i-1].Stamp || one.Text == got[i-1].Text) {
						t.Error("an element that tells nothing", s, key, at, got)
					}
				}
				for _, stamp := range someStamps(s) {
					if known := impl.TraceAt(got, stamp); known != textOf(stateOf(s, stamp), key, at) {
						t.Error("TraceAt", s, key, at, stamp, known)
					}
				}
				long = max(long, len(got))
			}
		}
	}
	if long < 5 {
		t.Error("no long history", long)
	}
}

// P57 again, in its own words, for stores that StoreSet does not make.
func TestATraceIsRelGetOfStoreAt(t *testing.T) {
	for _, s := range oddStores() {
		for _, key := range traceKeys() {
			for _, at := range tracePoints() {
				list := impl.TraceOf(s, key, at)
				for _, stamp := range someStamps(s) {
					if want, got := impl.RelGet(impl.StoreAt(s, stamp), key, at), impl.TraceAt(list, stamp); got != want {
						t.Error(s, key, at, stamp, got, "and not", want)
					}
				}
			}
		}
	}
}

func TestTraceOfAtEdges(t *testing.T) {
	s, ok := impl.StoreAll([][]impl.Row{
		rows(row("b", "x", 0, 9)),
		rows(row("a", "x", 2, 8), row("b", "x", 0, 9)),
		rows(row("a", "x", 2, 6), row("b", "y", 0, 9)),
		rows(row("a", "y", 2, 5), row("a", "x", 5, 9)),
		nil,
		nil,
		rows(row("a", "y", 2, 5), row("c", "x", 99, 100)),
		rows(row("a", "x", 0, 100)),
	})
	if !ok {
		t.Fatal("StoreAll")
	}
	for _, c := range []struct {
		name string
		key  string
		at   int
		want []impl.Trace
	}{
		{"a text stays while its row and other ones change", "a", 5, traces(trace(2, "x"), trace(5, ""), trace(8, "x"))},
		{"a text becomes another one, goes, and comes again", "a", 4, traces(trace(2, "x"), trace(4, "y"), trace(5, ""), trace(7, "y"), trace(8, "x"))},
		{"a row ends earlier, and begins again", "a", 7, traces(trace(2, "x"), trace(3, ""), trace(4, "x"), trace(5, ""), trace(8, "x"))},
		{"the first point of a row", "a", 2, traces(trace(2, "x"), trace(4, "y"), trace(5, ""), trace(7, "y"), trace(8, "x"))},
		{"ahead of a row", "a", 1, traces(trace(8, "x"))},
		{"behind a row", "a", 9, traces(trace(8, "x"))},
		{"the first stamp", "b", 0, traces(trace(1, "x"), trace(3, "y"), trace(4, ""))},
		{"the last point", "c", 99, traces(trace(7, "x"), trace(8, ""))},
		{"a point without a value", "c", 98, nil},
		{"no point", "a", 100, nil},
		{"no point", "a", -1, nil},
		{"no point", "a", math.MaxInt, nil},
		{"no point", "a", math.MinInt, nil},
		{"no row has the key", "d", 5, nil},
		{"no key", "", 5, nil},
		{"no key", "A", 5, nil},
	} {
		if got := impl.TraceOf(s, c.key, c.at); !slices.Equal(got, c.want) {
			t.Error(c.name, c.key, c.at, got, "and not", c.want)
		}
	}
	for _, empty := range []impl.Store{{}, store(1), store(impl.StampMax)} {
		if got := impl.TraceOf(empty, "a", 5); len(got) > 0 {
			t.Error("no versions", empty, got)
		}
	}
}

func TestTraceOfAtTheLastStamp(t *testing.T) {
	table := rows(row("a", "x", 0, 9))
	s, ok := impl.StoreAll(slices.Repeat([][]impl.Row{table, nil}, impl.StampMax/2))
	got := impl.TraceOf(s, "a", 0)
	if !ok || len(got) != impl.StampMax || got[0] != trace(1, "x") || got[impl.StampMax-1] != trace(impl.StampMax, "") {
		t.Error("a change at each stamp", got, ok)
	}
}

func TestTraceOfVersionsOfTheSameText(t *testing.T) {
	for _, odd := range []impl.Store{
		store(3, ver(row("a", "x", 0, 9), 1, 2), ver(row("a", "x", 0, 9), 2, impl.Forever)),
		store(3, ver(row("a", "x", 0, 9), 1, 3), ver(row("a", "x", 0, 5), 3, impl.Forever)),
	} {
		if got := impl.TraceOf(odd, "a", 4); !slices.Equal(got, traces(trace(1, "x"))) {
			t.Error(odd, got)
		}
	}
}

// P58
func TestTheLastEntryCounts(t *testing.T) {
	for _, s := range goodStores(t) {
		for _, key := range edgeKeys {
			for _, at := range tracePoints() {
				list := impl.TraceOf(s, key, at)
				for _, one := range list {
					if got := impl.TraceAt(list, one.Stamp); got != one.Text {
						t.Error(list, one, got)
					}
				}
				for _, stamp := range []int{0, -1, math.MinInt} {
					if got := impl.TraceAt(list, stamp); got != "" {
						t.Error("ahead of all", list, stamp, got)
					}
				}
			}
		}
	}
}

func TestTraceAtEdges(t *testing.T) {
	list := traces(trace(2, "x"), trace(3, ""), trace(7, "y"))
	mixed := traces(trace(7, "y"), trace(2, "x"), trace(9, "z"), trace(2, "w"), trace(4, "v"))
	for _, c := range []struct {
		name  string
		list  []impl.Trace
		stamp int
		want  string
	}{
		{"an empty list", nil, 5, ""},
		{"an empty list", traces(), math.MaxInt, ""},
		{"ahead of the first element", list, 1, ""},
		{"stamp 0", list, 0, ""},
		{"a negative stamp", list, -1, ""},
		{"the least stamp", list, math.MinInt, ""},
		{"at the first element", list, 2, "x"},
		{"at an element without a text", list, 3, ""},
		{"between two elements", list, 6, ""},
		{"at the last element", list, 7, "y"},
		{"behind the last element", list, 8, "y"},
		{"the greatest stamp", list, math.MaxInt, "y"},
		{"between the first two", traces(trace(2, "x"), trace(9, "y")), 8, "x"},
		{"in no order, ahead of all", mixed, 1, ""},
		{"in no order, two of the same stamp", mixed, 2, "w"},
		{"in no order, between", mixed, 3, "w"},
		{"in no order, the last one", mixed, 4, "v"},
		{"in no order, the last one again", mixed, 7, "v"},
		{"in no order, behind all", mixed, 30, "v"},
		{"descending", traces(trace(9, "x"), trace(5, "y"), trace(1, "z")), 9, "z"},
		{"only the first one", traces(trace(1, "x"), trace(5, "y"), trace(9, "z")), 4, "x"},
		{"negative stamps", traces(trace(-5, "x"), trace(-2, "y")), -3, "x"},
		{"the least stamp of all", traces(trace(math.MinInt, "x"), trace(math.MaxInt, "y")), math.MinInt, "x"},
		{"no word", traces(trace(1, "A b\n")), 1, "A b\n"},
	} {
		if got := impl.TraceAt(c.list, c.stamp); got != c.want {
			t.Error(c.name, c.list, c.stamp, got)
		}
	}
}

// P59
func TestRestoringKeepsHistory(t *testing.T) {
	for _, s := range goodStores(t) {
		for _, stamp := range someStamps(s) {
			got, ok := impl.StoreBack(s, stamp)
			checkNext(t, s, stateOf(s, stamp), got, ok)
		}
	}
}

func TestStoreBackAtEdges(t *testing.T) {
	a, b, c := row("a", "x", 0, 9), row("b", "x", 0, 9), row("b", "x", 0, 5)
	s := store(3, ver(a, 1, 3), ver(b, 2, 3), ver(c, 3, impl.Forever))
	gone := []impl.Ver{ver(a, 1, 3), ver(b, 2, 3), ver(c, 3, 4)}
	for _, one := range []struct {
		stamp int
		want  []impl.Ver
	}{
		{math.MinInt, gone}, {-1, gone}, {0, gone},
		{1, append(slices.Clone(gone), ver(a, 4, impl.Forever))},
		{2, append(slices.Clone(gone), ver(a, 4, impl.Forever), ver(b, 4, impl.Forever))},
		{3, s.Vers}, {4, s.Vers}, {impl.StampMax, s.Vers}, {impl.Forever, s.Vers}, {math.MaxInt, s.Vers},
	} {
		if got, ok := impl.StoreBack(s, one.stamp); !ok || !sameStore(got, store(4, one.want...)) {
			t.Error(one.stamp, got, ok)
		}
	}
	for _, stamp := range []int{-1, 0, 1} {
		if got, ok := impl.StoreBack(impl.Store{}, stamp); !ok || !sameStore(got, store(1)) {
			t.Error("the empty store", stamp, got, ok)
		}
	}
}

func TestStoreBackAtTheLastStamp(t *testing.T) {
	a := row("a", "x", 0, 9)
	s := store(impl.StampMax-1, ver(a, 1, 2), ver(a, 9, impl.Forever))
	last, ok := impl.StoreBack(s, 5)
	if !ok || !sameStore(last, store(impl.StampMax, ver(a, 1, 2), ver(a, 9, impl.StampMax))) {
		t.Fatal("a stamp is left", last, ok)
	}
	for _, stamp := range []int{-1, 0, 1, 9, impl.StampMax, impl.StampMax + 1} {
		if got, ok := impl.StoreBack(last, stamp); ok || !sameStore(got, last) {
			t.Error("no stamp is left", stamp, got, ok)
		}
	}
}

func TestStoreBackOfManyVersions(t *testing.T) {
	list := [][]impl.Row{rows(row("b", "x", 0, 9)), rows(row("c", "x", 0, 9), row("d", "x", 0, 9))}
	for i := range 4 {
		list = append(list, fullTable(strconv.Itoa(i)))
	}
	s, ok := impl.StoreAll(append(list, fullTable("y")[:20]))
	if !ok || len(s.Vers) != impl.VersMax-1 {
		t.Fatal("one less", len(s.Vers), ok)
	}
	for _, stamp := range []int{2, 3, 6} {
		if got, ok := impl.StoreBack(s, stamp); ok || !sameStore(got, s) {
			t.Error("too many", stamp, len(got.Vers), ok)
		}
	}
	full, ok := impl.StoreBack(s, 1)
	if !ok || len(full.Vers) != impl.VersMax || !slices.Equal(impl.StoreAt(full, 8), list[0]) {
		t.Fatal("one more", len(full.Vers), ok)
	}
	for _, stamp := range []int{0, 1, 8, 9} {
		if got, ok := impl.StoreBack(full, stamp); !ok || got.Now != 9 || len(got.Vers) != impl.VersMax {
			t.Error("nothing is added", stamp, len(got.Vers), ok)
		}
	}
	for _, stamp := range []int{2, 3, 7} {
		if got, ok := impl.StoreBack(full, stamp); ok || !sameStore(got, full) {
			t.Error("too many for a full store", stamp, len(got.Vers), ok)
		}
	}
}

// P60
func TestPruningPreservesLaterStates(t *testing.T) {
	for _, s := range append(goodStores(t), storeOfVers(impl.VersMax)) {
		for _, stamp := range someStamps(s) {
			got := impl.StorePrune(s, stamp)
			want := store(s.Now)
			for _, v := range s.Vers {
				if v.Out > min(stamp, s.Now) {
					want.Vers = append(want.Vers, v)
				}
			}
			if !sameStore(got, want) || !impl.StoreOk(got) {
				t.Error("StorePrune", s, stamp, "is", got, "and not", want)
			}
			if again := impl.StorePrune(got, stamp); !sameStore(again, got) {
				t.Error("pruned again", s, stamp, again)
			}
			for _, later := range someStamps(s) {
				if later >= min(stamp, s.Now) && !slices.Equal(impl.StoreAt(got, later), stateOf(s, later)) {
					t.Error("a later state", s, stamp, later)
				}
			}
		}
	}
}

func TestStorePruneAtEdges(t *testing.T) {
	a, b, c, d := row("a", "x", 0, 9), row("b", "x", 0, 9), row("c", "x", 0, 9), row("d", "x", 0, 9)
	s := store(5, ver(a, 1, 2), ver(b, 1, 4), ver(c, 2, 3), ver(d, 2, impl.Forever), ver(a, 3, 5), ver(c, 5, impl.Forever))
	for _, one := range []struct {
		stamp int
		want  []impl.Ver
	}{
		{math.MinInt, s.Vers}, {-1, s.Vers}, {0, s.Vers}, {1, s.Vers},
		{2, s.Vers[1:]},
		{3, []impl.Ver{ver(b, 1, 4), ver(d, 2, impl.Forever), ver(a, 3, 5), ver(c, 5, impl.Forever)}},
		{4, []impl.Ver{ver(d, 2, impl.Forever), ver(a, 3, 5), ver(c, 5, impl.Forever)}},
		{5, []impl.Ver{ver(d, 2, impl.Forever), ver(c, 5, impl.Forever)}},
		{6, []impl.Ver{ver(d, 2, impl.Forever), ver(c, 5, impl.Forever)}},
		{impl.Forever - 1, []impl.Ver{ver(d, 2, impl.Forever), ver(c, 5, impl.Forever)}},
		{impl.Forever, []impl.Ver{ver(d, 2, impl.Forever), ver(c, 5, impl.Forever)}},
		{impl.Forever + 1, []impl.Ver{ver(d, 2, impl.Forever), ver(c, 5, impl.Forever)}},
		{math.MaxInt, []impl.Ver{ver(d, 2, impl.Forever), ver(c, 5, impl.Forever)}},
	} {
		if got := impl.StorePrune(s, one.stamp); !sameStore(got, store(5, one.want...)) {
			t.Error(one.stamp, got)
		}
	}
	twice := impl.StorePrune(impl.StorePrune(s, 2), 4)
	if !sameStore(twice, impl.StorePrune(s, 4)) || !sameStore(impl.StorePrune(twice, 2), twice) {
		t.Error("pruned at two stamps", twice)
	}
	for _, empty := range []impl.Store{{}, store(3), store(impl.StampMax)} {
		if got := impl.StorePrune(empty, 2); !sameStore(got, empty) {
			t.Error("no versions", empty, got)
		}
	}
	if got := impl.StorePrune(store(3, ver(a, 1, 2), ver(b, 1, 3)), 3); !sameStore(got, store(3)) {
		t.Error("nothing is left", got)
	}
}

// P61
func TestStoreManyCountsRowsOverTime(t *testing.T) {
	for _, s := range append(goodStores(t), storeOfVers(impl.VersMax)) {
		var want []int
		for stamp := 1; stamp <= s.Now; stamp++ {
			many := len(impl.StoreAt(s, stamp))
			if many != len(stateOf(s, stamp)) {
				t.Error("StoreAt", s, stamp, many)
			}
			want = append(want, many)
		}
		if got := impl.StoreMany(s); !slices.Equal(got, want) {
			t.Error("StoreMany", s, "is", got, "and not", want)
		}
	}
}

func TestStoreManyAtEdges(t *testing.T) {
	a, b := row("a", "x", 0, 9), row("b", "x", 0, 9)
	for _, c := range []struct {
		name string
		s    impl.Store
		want []int
	}{
		{"Now at 0", impl.Store{}, nil},
		{"no versions", store(3), []int{0, 0, 0}},
		{"a table that is empty at some stamps", store(5, ver(a, 2, 3), ver(a, 4, impl.Forever), ver(b, 4, 5)), []int{0, 1, 0, 2, 1}},
		{"the last stamp only", store(2, ver(a, 2, impl.Forever), ver(b, 2, impl.Forever)), []int{0, 2}},
		{"a full table", store(1, versOf(scattered("a", impl.RowsMax), 1, impl.Forever)...), []int{impl.RowsMax}},
		{"two rows of a key", store(1, ver(a, 1, impl.Forever), ver(row("a", "y", 9, 12), 1, impl.Forever)), []int{2}},
	} {
		if got := impl.StoreMany(c.s); !slices.Equal(got, c.want) {
			t.Error(c.name, got)
		}
	}
	if got := impl.StoreMany(store(impl.StampMax)); len(got) != impl.StampMax {
		t.Error("as many stamps as can be", got)
	}
}

func TestTracesRejectBadStores(t *testing.T) {
	for _, s := range badStores() {
		for _, key := range []string{"a", "b", "q", ""} {
			for _, at := range []int{-1, 0, 5, 100} {
				if got := impl.TraceOf(s, key, at); len(got) > 0 {
					t.Error("TraceOf", s, key, at, got)
				}
			}
		}
		for _, stamp := range []int{math.MinInt, -1, 0, 1, 2, 3, impl.StampMax + 1, impl.Forever, math.MaxInt} {
			if got, ok := impl.StoreBack(s, stamp); ok || !sameStore(got, impl.Store{}) {
				t.Error("StoreBack", s, stamp, got, ok)
			}
			if got := impl.StorePrune(s, stamp); !sameStore(got, impl.Store{}) {
				t.Error("StorePrune", s, stamp, got)
			}
		}
		if got := impl.StoreMany(s); len(got) > 0 {
			t.Error("StoreMany", s, got)
		}
	}
}

func TestTraceResultsShareNoMemory(t *testing.T) {
	noVer, noTrace := ver(row("q", "q", 77, 88), 7, 8), trace(77, "q")
	for _, one := range goodStores(t)[:20] {
		s := roomyStore(one)
		whole := slices.Clone(s.Vers[:cap(s.Vers)])
		for _, stamp := range someStamps(s) {
			back, _ := impl.StoreBack(s, stamp)
			scribble(back.Vers, noVer)
			scribble(impl.StorePrune(s, stamp).Vers, noVer)
		}
		scribble(impl.TraceOf(s, "a", 0), noTrace)
		scribble(impl.StoreMany(s), 77)
		if !slices.Equal(s.Vers[:cap(s.Vers)], whole) {
			t.Error("an argument has changed", one)
		}
	}
	list := append(make([]impl.Trace, 0, 8), trace(2, "x"), trace(5, "y"), trace(3, "z"))
	whole := slices.Clone(list[:cap(list)])
	impl.TraceAt(list, 4)
	if !slices.Equal(list[:cap(list)], whole) {
		t.Error("an argument has changed", list)
	}
	last := roomyStore(store(impl.StampMax, ver(row("a", "x", 0, 9), 1, impl.Forever)))
	kept := slices.Clone(last.Vers[:cap(last.Vers)])
	if got, ok := impl.StoreBack(last, 0); ok {
		t.Error("no stamp is left", got)
	} else {
		scribble(got.Vers, noVer)
	}
	if !slices.Equal(last.Vers[:cap(last.Vers)], kept) {
		t.Error("the store is returned itself where nothing is set", last)
	}
}
