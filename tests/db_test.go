package tests

import (
	"math"
	"math/rand"
	"slices"
	"strconv"
	"testing"

	"loop.example/varve/impl"
)

func insertOp(tab int, r impl.Row) impl.Op {
	return impl.Op{Kind: impl.OpInsert, Tab: tab, Row: r}
}

func deleteOp(tab int, key string, from int, to int) impl.Op {
	return impl.Op{Kind: impl.OpDelete, Tab: tab, Row: row(key, "", from, to)}
}

func updateOp(tab int, r impl.Row) impl.Op {
	return impl.Op{Kind: impl.OpUpdate, Tab: tab, Row: r}
}

func mergeOp(tab int, r impl.Row) impl.Op {
	return impl.Op{Kind: impl.OpMerge, Tab: tab, Row: r}
}

func tx(list ...impl.Op) []impl.Op {
	return list
}

func db(stores ...impl.Store) impl.Db {
	return impl.Db{Tabs: stores}
}

func sameDb(a impl.Db, b impl.Db) bool {
	return slices.EqualFunc(a.Tabs, b.Tabs, sameStore)
}

// played is a database that the tests need; each transaction has to succeed.
func played(t *testing.T, list ...[]impl.Op) impl.Db {
	t.Helper()
	d := impl.DbNew()
	for _, one := range list {
		next, code := impl.DbDo(d, one)
		if code != impl.CodeFine {
			t.Fatal(one, code)
		}
		d = next
	}
	return d
}

// opAfter is what an operation has to make of a table, point by point.
func opAfter(table []impl.Row, o impl.Op) ([]impl.Row, int) {
	keys := []string{o.Row.Key}
	for _, r := range table {
		keys = append(keys, r.Key)
	}
	slices.Sort(keys)
	there := false
	next := tableWhere(slices.Compact(keys), func(key string, at int) string {
		old := textOf(table, key, at)
		if key != o.Row.Key || !inside(set(o.Row.Span), at) {
			return old
		}
		there = there || old != ""
		if o.Kind == impl.OpUpdate && old == "" {
			return ""
		}
		return o.Row.Text
	})
	switch {
	case o.Kind == impl.OpInsert && there:
		return nil, impl.CodeThere
	case len(next) > impl.RowsMax:
		return nil, impl.CodeFull
	}
	return next, impl.CodeFine
}

// violated asks at each point, and so does not need the violations to be a table.
func violated(child []impl.Row, parent []impl.Row) bool {
	for at := 0; at <= impl.TimeMax; at++ {
		for _, r := range child {
			if inside(set(r.Span), at) && textOf(parent, r.Text, at) == "" {
				return true
			}
		}
	}
	return false
}

// dbAfter is what DbDo has to make of a valid database and a transaction.
func dbAfter(d impl.Db, list []impl.Op) (impl.Db, int) {
	tabs := [][]impl.Row{stateOf(d.Tabs[0], impl.Forever), stateOf(d.Tabs[1], impl.Forever)}
	for _, o := range list {
		table, code := opAfter(tabs[o.Tab], o)
		if code != impl.CodeFine {
			return d, code
		}
		tabs[o.Tab] = table
	}
	if violated(tabs[1], tabs[0]) {
		return d, impl.CodeBad
	}
	parent, ok := storeAfter(d.Tabs[0], tabs[0])
	child, too := storeAfter(d.Tabs[1], tabs[1])
	if !ok || !too {
		return d, impl.CodeFull
	}
	return db(parent, child), impl.CodeFine
}

// checkDo says what P33 does, and that the result is the only one.
func checkDo(t *testing.T, d impl.Db, list []impl.Op) (impl.Db, int) {
	t.Helper()
	want, wantCode := dbAfter(d, list)
	got, code := impl.DbDo(d, list)
	if code != wantCode || !sameDb(got, want) || !impl.DbOk(got) {
		t.Error("DbDo", d, list, "is", got, code, "and not", want, wantCode)
		return want, wantCode
	}
	now := d.Tabs[0].Now
	if code == impl.CodeFine && (got.Tabs[0].Now != now+1 || got.Tabs[1].Now != now+1) {
		t.Error("Now", d, list, got)
	}
	for tab, s := range d.Tabs {
		for stamp := range now + 1 {
			if !slices.Equal(impl.StoreAt(got.Tabs[tab], stamp), stateOf(s, stamp)) {
				t.Error("history", d, list, tab, stamp)
			}
		}
	}
	return got, code
}

func badOps() []impl.Op {
	var list []impl.Op
	for _, kind := range []int{math.MinInt, -1, 0, 5, 6, math.MaxInt} {
		list = append(list, impl.Op{Kind: kind, Row: row("a", "x", 0, 9)}, impl.Op{Kind: kind, Row: row("a", "", 0, 9)})
	}
	for kind := impl.OpInsert; kind <= impl.OpMerge; kind++ {
		text := "x"
		if kind == impl.OpDelete {
			text = ""
		}
		for _, tab := range badTabs() {
			list = append(list, impl.Op{Kind: kind, Tab: tab, Row: row("a", text, 0, 9)})
		}
		for _, key := range badWords() {
			list = append(list, impl.Op{Kind: kind, Row: row(key, text, 0, 9)})
		}
		for _, s := range badSpans() {
			list = append(list, impl.Op{Kind: kind, Tab: 1, Row: impl.Row{Key: "a", Text: text, Span: s}})
		}
		for _, text := range append(badWords(), goodWords()...) {
			if kind == impl.OpDelete && text != "" || kind != impl.OpDelete && slices.Contains(badWords(), text) {
				list = append(list, impl.Op{Kind: kind, Row: row("a", text, 0, 9)})
			}
		}
	}
	return append(list, impl.Op{})
}

func badTabs() []int {
	return []int{math.MinInt, -1, 2, 3, math.MaxInt}
}

func badTransactions() [][]impl.Op {
	fine := insertOp(impl.TabParent, row("z", "z", 0, 9))
	list := [][]impl.Op{nil, {}, slices.Repeat(tx(mergeOp(impl.TabParent, row("z", "z", 0, 9))), impl.OpsMax+1), slices.Repeat(tx(fine), 1000)}
	for _, o := range badOps() {
		list = append(list, tx(o), tx(fine, o), tx(o, fine), tx(fine, fine, fine, o))
	}
	return list
}

func badDbs() []impl.Db {
	parent := store(3, ver(row("p", "x", 10, 20), 2, 3))
	child := store(3, ver(row("c", "p", 10, 20), 2, 3))
	list := []impl.Db{
		{}, db(), db(impl.Store{}), db(impl.Store{}, impl.Store{}, impl.Store{}), db(parent), db(parent, child, child),
		db(store(1), store(0)), db(store(0), store(1)), db(parent, store(4)), db(store(2), store(3)),
		db(child, parent),
		db(store(3, ver(row("p", "x", 10, 20), 2, 3)), store(3, ver(row("c", "p", 10, 20), 2, impl.Forever))),
		db(store(3, ver(row("p", "x", 10, 20), 2, 3)), store(3, ver(row("c", "p", 10, 20), 1, 2))),
		db(store(3, ver(row("p", "x", 10, 20), 2, 3)), store(3, ver(row("c", "p", 10, 20), 1, 3))),
		db(store(3, ver(row("p", "x", 10, 20), 2, impl.Forever)), store(3, ver(row("c", "p", 10, 21), 3, impl.Forever))),
		db(store(3, ver(row("p", "x", 10, 20), 2, impl.Forever)), store(3, ver(row("c", "p", 9, 20), 2, 3))),
		db(store(3), child),
		db(store(1, ver(row("p", "x", 10, 11), 1, impl.Forever), ver(row("p", "x", 20, 21), 1, impl.Forever)), store(1, childrenOf("p", 0, 100, 1)...)),
	}
	for _, s := range badStores() {
		list = append(list, db(s, store(s.Now)), db(store(s.Now), s))
	}
	return list
}

// childrenOf are RowsMax children of one parent.
func childrenOf(parent string, from int, to int, in int) []impl.Ver {
	var vers []impl.Ver
	for i := range impl.RowsMax {
		vers = append(vers, ver(row("c"+strconv.Itoa(10+i), parent, from, to), in, impl.Forever))
	}
	return vers
}

// P38
func TestOnlyDeletionsHaveNoText(t *testing.T) {
	for _, tab := range []int{impl.TabParent, impl.TabChild} {
		for _, word := range goodWords() {
			for _, s := range edgeSpans() {
				for _, r := range rows(impl.Row{Key: word, Text: "x", Span: s}, impl.Row{Key: "a", Text: word, Span: s}) {
					for kind := impl.OpInsert; kind <= impl.OpMerge; kind++ {
						empty := impl.Row{Key: r.Key, Span: s}
						if got := impl.OpOk(impl.Op{Kind: kind, Tab: tab, Row: r}); got != (kind != impl.OpDelete) {
							t.Error("with a text", kind, r, got)
						}
						if got := impl.OpOk(impl.Op{Kind: kind, Tab: tab, Row: empty}); got != (kind == impl.OpDelete) {
							t.Error("without a text", kind, empty, got)
						}
					}
				}
			}
		}
	}
	for _, o := range badOps() {
		if impl.OpOk(o) {
			t.Error("is not valid", o)
		}
	}
}

func TestDbOk(t *testing.T) {
	for _, d := range []impl.Db{
		impl.DbNew(), db(store(0), store(0)), db(store(30), store(30)),
		db(store(3, ver(row("p", "x", 10, 20), 2, 3)), store(3)),
		db(store(3, ver(row("p", "x", 10, 20), 2, 3)), store(3, ver(row("c", "p", 10, 20), 2, 3))),
		db(store(3, ver(row("p", "x", 10, 20), 1, impl.Forever)), store(3, ver(row("c", "p", 19, 20), 2, 3), ver(row("d", "p", 10, 20), 3, impl.Forever))),
		db(store(1, ver(row("p", "x", 10, 20), 1, impl.Forever), ver(row("p", "y", 20, 30), 1, impl.Forever)), store(1, ver(row("c", "p", 15, 25), 1, impl.Forever))),
		db(store(2, ver(row("p", "x", 10, 20), 1, 2), ver(row("p", "y", 10, 20), 2, impl.Forever)), store(2, ver(row("c", "p", 10, 20), 1, impl.Forever))),
		db(store(1, ver(row("p", "x", 0, 100), 1, impl.Forever)), store(1, childrenOf("p", 0, 100, 1)...)),
	} {
		if !impl.DbOk(d) {
			t.Error("is valid", d)
		}
	}
	for _, d := range badDbs() {
		if impl.DbOk(d) {
			t.Error("is not valid", d)
		}
	}
	if got := impl.DbNew(); !sameDb(got, db(impl.Store{}, impl.Store{})) {
		t.Error("DbNew", got)
	}
}

// familyTxs make two parents, one of them with another Text for a while, and a
// child of each.
func familyTxs() [][]impl.Op {
	return [][]impl.Op{
		tx(insertOp(0, row("p", "x", 10, 30)), insertOp(0, row("q", "x", 0, 100))),
		tx(insertOp(1, row("a", "p", 15, 25)), insertOp(1, row("b", "q", 0, 100))),
		tx(updateOp(0, row("p", "y", 18, 20))),
	}
}

func family(t *testing.T) impl.Db {
	t.Helper()
	return played(t, familyTxs()...)
}

// someOps has each kind at the edges of family's rows, in both tables.
func someOps() []impl.Op {
	var list []impl.Op
	for _, s := range []impl.Span{span(0, 100), span(10, 30), span(15, 25), span(14, 25), span(15, 26), span(10, 15), span(25, 30), span(30, 31), span(9, 10), span(19, 20), span(99, 100)} {
		for _, key := range []string{"p", "q", "a"} {
			for _, text := range []string{"x", "p", "q"} {
				r := impl.Row{Key: key, Text: text, Span: s}
				list = append(list, insertOp(0, r), updateOp(0, r), mergeOp(0, r), insertOp(1, r), updateOp(1, r), mergeOp(1, r))
			}
			list = append(list, deleteOp(0, key, s.From, s.To), deleteOp(1, key, s.From, s.To))
		}
	}
	return list
}

// P33
func TestTransactionsAreAtomic(t *testing.T) {
	d := family(t)
	seen := map[int]int{}
	ops := someOps()
	for i, o := range ops {
		_, code := checkDo(t, d, tx(o))
		seen[code]++
		for j := i % 17; j < len(ops); j += 17 {
			_, code = checkDo(t, d, tx(o, ops[j]))
			seen[code]++
		}
	}
	if seen[impl.CodeFine] == 0 || seen[impl.CodeThere] == 0 || seen[impl.CodeBad] == 0 {
		t.Error("codes", seen)
	}
}

func TestDbDoAtEdges(t *testing.T) {
	d := family(t)
	for _, c := range []struct {
		name string
		tx   []impl.Op
		code int
	}{
		{"a child just as long as its parent", tx(insertOp(1, row("c", "p", 10, 30))), impl.CodeFine},
		{"a child that begins earlier", tx(insertOp(1, row("c", "p", 9, 30))), impl.CodeBad},
		{"a child that holds longer", tx(insertOp(1, row("c", "p", 10, 31))), impl.CodeBad},
		{"a child across a parent's gap", tx(deleteOp(0, "q", 50, 51)), impl.CodeBad},
		{"a child without a parent", tx(insertOp(1, row("c", "r", 50, 51))), impl.CodeBad},
		{"a child whose parent comes later", tx(insertOp(1, row("c", "r", 50, 51)), insertOp(0, row("r", "x", 50, 51))), impl.CodeFine},
		{"a child whose text is only a parent's text", tx(insertOp(1, row("c", "x", 15, 16))), impl.CodeBad},
		{"a child whose text is only a child", tx(insertOp(1, row("c", "a", 15, 16))), impl.CodeBad},
		{"a parent that goes", tx(deleteOp(0, "p", 0, 100)), impl.CodeBad},
		{"a parent that goes with its child", tx(deleteOp(0, "p", 0, 100), deleteOp(1, "a", 0, 100)), impl.CodeFine},
		{"a parent that goes where it has no child", tx(deleteOp(0, "p", 25, 30), deleteOp(0, "p", 10, 15)), impl.CodeFine},
		{"a parent that goes one point too early", tx(deleteOp(0, "p", 24, 30)), impl.CodeBad},
		{"a parent that moves", tx(deleteOp(0, "p", 10, 30), insertOp(0, row("p", "x", 20, 40))), impl.CodeBad},
		{"a parent that moves and still covers", tx(deleteOp(0, "p", 10, 30), insertOp(0, row("p", "x", 15, 40))), impl.CodeFine},
		{"a parent with another text", tx(mergeOp(0, row("p", "z", 0, 100))), impl.CodeFine},
		{"an update of nothing", tx(updateOp(0, row("r", "x", 0, 100))), impl.CodeFine},
		{"a deletion of nothing", tx(deleteOp(1, "r", 0, 100)), impl.CodeFine},
		{"an insert where the key is", tx(insertOp(0, row("p", "x", 29, 40))), impl.CodeThere},
		{"an insert with the value that is there", tx(insertOp(1, row("a", "p", 15, 25))), impl.CodeThere},
		{"an insert twice", tx(insertOp(0, row("r", "x", 0, 9)), insertOp(0, row("r", "x", 8, 9))), impl.CodeThere},
		{"an insert behind a deletion", tx(deleteOp(0, "q", 0, 100), insertOp(0, row("q", "y", 0, 100))), impl.CodeFine},
		{"a failure behind successes", tx(insertOp(0, row("r", "x", 0, 9)), insertOp(1, row("c", "r", 0, 9)), deleteOp(1, "a", 0, 100), insertOp(0, row("p", "x", 10, 11))), impl.CodeThere},
		{"a failure ahead of a violation", tx(insertOp(1, row("c", "r", 50, 51)), insertOp(1, row("c", "q", 50, 51))), impl.CodeThere},
		{"a violation that is made good", tx(deleteOp(0, "p", 0, 100), mergeOp(1, row("a", "q", 15, 25))), impl.CodeFine},
		{"just OpsMax operations", slices.Repeat(tx(mergeOp(0, row("z", "z", 0, 9))), impl.OpsMax), impl.CodeFine},
		{"the last point", tx(insertOp(0, row("p", "x", 99, 100)), insertOp(1, row("a", "p", 99, 100))), impl.CodeFine},
	} {
		if _, code := checkDo(t, d, c.tx); code != c.code {
			t.Error(c.name, code)
		}
	}
}

// P34
func TestATransactionAppliesItsOperationsInOrder(t *testing.T) {
	d := family(t)
	fine := 0
	ops := someOps()
	for i, o := range ops {
		for j := i % 7; j < len(ops); j += 7 {
			list := tx(o, ops[j], ops[(i+j)%len(ops)])
			got, code := impl.DbDo(d, list)
			if code != impl.CodeFine {
				continue
			}
			fine++
			tabs := [][]impl.Row{impl.StoreAt(d.Tabs[0], 3), impl.StoreAt(d.Tabs[1], 3)}
			for _, o := range list {
				var ok bool
				switch o.Kind {
				case impl.OpInsert:
					tabs[o.Tab], ok = impl.RelInsert(tabs[o.Tab], o.Row)
				case impl.OpDelete:
					tabs[o.Tab], ok = impl.RelDelete(tabs[o.Tab], o.Row.Key, o.Row.Span)
				case impl.OpUpdate:
					tabs[o.Tab], ok = impl.RelUpdate(tabs[o.Tab], o.Row)
				case impl.OpMerge:
					tabs[o.Tab], ok = impl.RelMerge(tabs[o.Tab], o.Row)
				}
				if !ok {
					t.Error("fails", list, o)
				}
			}
			for tab, table := range tabs {
				if !slices.Equal(impl.StoreAt(got.Tabs[tab], 4), table) {
					t.Error(list, got, table)
				}
			}
		}
	}
	if fine < 100 {
		t.Error("few transactions succeed", fine)
	}
}

// fullDb has RowsMax parents, all of one key, and no children.
func fullDb(t *testing.T) impl.Db {
	t.Helper()
	parent, ok := impl.StoreSet(impl.Store{}, fullTable("x"))
	if !ok {
		t.Fatal("StoreSet")
	}
	return db(parent, store(1))
}

func TestDbDoOfFullTables(t *testing.T) {
	d := fullDb(t)
	for _, c := range []struct {
		name string
		tx   []impl.Op
		code int
	}{
		{"an insert of one row more", tx(insertOp(0, row("b", "x", 0, 9))), impl.CodeFull},
		{"an insert where the key is", tx(insertOp(0, row("a", "x", 2, 5))), impl.CodeThere},
		{"an insert that joins two rows", tx(insertOp(0, row("a", "x", 3, 4))), impl.CodeFine},
		{"a deletion that splits a row", tx(deleteOp(0, "a", 1, 2)), impl.CodeFull},
		{"a deletion of a row", tx(deleteOp(0, "a", 0, 4)), impl.CodeFine},
		{"an update that splits a row", tx(updateOp(0, row("a", "y", 1, 2))), impl.CodeFull},
		{"an update of a whole row", tx(updateOp(0, row("a", "y", 0, 4))), impl.CodeFine},
		{"a merge of one row more", tx(mergeOp(0, row("a", "y", 3, 4))), impl.CodeFull},
		{"a merge in place of a row", tx(mergeOp(0, row("a", "y", 0, 3))), impl.CodeFine},
		{"too many rows for a moment", tx(insertOp(0, row("b", "x", 0, 9)), deleteOp(0, "a", 0, 100)), impl.CodeFull},
		{"room is made first", tx(deleteOp(0, "a", 0, 4), insertOp(0, row("b", "x", 0, 9))), impl.CodeFine},
		{"too many rows ahead of a violation", tx(insertOp(1, row("c", "p", 0, 9)), insertOp(0, row("b", "x", 0, 9))), impl.CodeFull},
		{"too many rows behind another failure", tx(insertOp(0, row("a", "x", 0, 1)), insertOp(0, row("b", "x", 0, 9))), impl.CodeThere},
		{"too many rows ahead of another failure", tx(insertOp(0, row("b", "x", 0, 9)), insertOp(0, row("a", "x", 0, 1))), impl.CodeFull},
		{"a failure behind three successes", tx(deleteOp(0, "a", 0, 4), insertOp(0, row("b", "x", 0, 9)), updateOp(0, row("b", "y", 0, 9)), insertOp(0, row("c", "x", 0, 9))), impl.CodeFull},
	} {
		if _, code := checkDo(t, d, c.tx); code != c.code {
			t.Error(c.name, code)
		}
	}
}

// The violations are more rows than a table can have.
func TestDbDoOfManyViolations(t *testing.T) {
	d := db(store(1, ver(row("p", "x", 0, 100), 1, impl.Forever)), store(1, childrenOf("p", 0, 100, 1)...))
	for _, list := range [][]impl.Op{
		tx(deleteOp(0, "p", 50, 51)),
		tx(deleteOp(0, "p", 50, 51), deleteOp(0, "p", 60, 61)),
		tx(deleteOp(0, "p", 1, 2), deleteOp(0, "p", 50, 51), deleteOp(0, "p", 60, 61), deleteOp(0, "p", 99, 100)),
	} {
		if _, code := checkDo(t, d, list); code != impl.CodeBad {
			t.Error(list, code)
		}
	}
}

func TestDbDoAtTheLimitsOfStores(t *testing.T) {
	add := tx(insertOp(0, row("p", "x", 0, 9)))
	bad := tx(insertOp(1, row("c", "q", 0, 9)))
	last := db(store(impl.StampMax), store(impl.StampMax))
	for _, list := range [][]impl.Op{add, tx(deleteOp(0, "p", 0, 9)), tx(updateOp(1, row("c", "q", 0, 9)))} {
		if _, code := checkDo(t, last, list); code != impl.CodeFull {
			t.Error("no stamp is left", list, code)
		}
	}
	if _, code := checkDo(t, last, bad); code != impl.CodeBad {
		t.Error("a violation comes first", code)
	}
	if got, code := checkDo(t, db(store(29), store(29)), add); code != impl.CodeFine || got.Tabs[1].Now != impl.StampMax {
		t.Error("the last stamp", got, code)
	}
	parents := storeOfVers(impl.VersMax)
	parents.Now, parents.Vers[impl.VersMax-1].Out = 6, impl.Forever
	full := db(parents, store(6))
	for _, c := range []struct {
		list []impl.Op
		code int
	}{
		{add, impl.CodeFull},
		{bad, impl.CodeBad},
		{tx(insertOp(1, row("c", "a", 92, 93))), impl.CodeFine},
		{tx(deleteOp(0, "a", 0, 100)), impl.CodeFine},
		{tx(deleteOp(0, "a", 92, 93)), impl.CodeFull},
		{tx(deleteOp(0, "a", 92, 93), insertOp(0, row("a", "x", 92, 93))), impl.CodeFine},
	} {
		if _, code := checkDo(t, full, c.list); code != c.code {
			t.Error("as many versions as there may be", c, code)
		}
	}
	some := storeOfVers(impl.VersMax - 1)
	some.Now = 6
	if got, code := checkDo(t, db(some, store(6)), add); code != impl.CodeFine || len(got.Tabs[0].Vers) != impl.VersMax {
		t.Error("the last version", code)
	}
	if _, code := checkDo(t, db(some, store(6)), tx(insertOp(0, row("p", "x", 0, 9)), insertOp(0, row("q", "x", 0, 9)))); code != impl.CodeFull {
		t.Error("one version too many", code)
	}
	children := storeOfVers(impl.VersMax)
	children.Now = 6
	under := db(store(6, ver(row("x", "y", 0, 100), 1, impl.Forever)), children)
	if _, code := checkDo(t, under, tx(insertOp(1, row("c", "x", 0, 9)))); code != impl.CodeFull {
		t.Error("one child too many", code)
	}
	if _, code := checkDo(t, under, add); code != impl.CodeFine {
		t.Error("the parents have room", code)
	}
}

func TestDbDoRejectsBadTransactions(t *testing.T) {
	for _, d := range []impl.Db{impl.DbNew(), family(t), db(store(30), store(30))} {
		for _, list := range badTransactions() {
			if got, code := impl.DbDo(d, list); code != impl.CodeForm || !sameDb(got, d) {
				t.Error(list, got, code)
			}
		}
	}
}

func TestDatabasesRejectBadDatabases(t *testing.T) {
	for _, d := range badDbs() {
		for _, list := range [][]impl.Op{nil, tx(insertOp(0, row("p", "x", 0, 9))), tx(impl.Op{}), tx(deleteOp(1, "c", 0, 100))} {
			if got, code := impl.DbDo(d, list); code != impl.CodeForm || got.Tabs != nil {
				t.Error("DbDo", d, list, got, code)
			}
		}
		for _, tab := range []int{-1, 0, 1, 2} {
			for stamp := -1; stamp < 4; stamp++ {
				if got := impl.DbAsk(d, tab, stamp, 15); len(got) > 0 {
					t.Error("DbAsk", d, tab, stamp, got)
				}
				if got := impl.DbSee(d, tab, stamp, span(0, 100)); len(got) > 0 {
					t.Error("DbSee", d, tab, stamp, got)
				}
			}
		}
	}
}

// P36
func TestViolatingTransactionsAreRejected(t *testing.T) {
	d := family(t)
	seen := map[int]int{}
	for _, o := range someOps() {
		if o.Kind != impl.OpMerge {
			continue
		}
		tabs := [][]impl.Row{impl.StoreAt(d.Tabs[0], 3), impl.StoreAt(d.Tabs[1], 3)}
		tabs[o.Tab], _ = impl.RelMerge(tabs[o.Tab], o.Row)
		bad, _ := impl.RelBad(tabs[1], tabs[0])
		_, code := impl.DbDo(d, tx(o))
		seen[code]++
		if code != impl.CodeFull && (code == impl.CodeBad) != (len(bad) > 0) {
			t.Error(o, code, bad)
		}
	}
	if seen[impl.CodeFine] == 0 || seen[impl.CodeBad] == 0 || len(seen) != 2 {
		t.Error("codes", seen)
	}
}

// someTx has a transaction of few words, so that keys meet each other; now and
// then it is none.
func someTx(source *rand.Rand) []impl.Op {
	words := []string{"p", "q", "r", "a"}
	var list []impl.Op
	for range 1 + source.Intn(impl.OpsMax) {
		o := impl.Op{Kind: 1 + source.Intn(4), Tab: source.Intn(2)}
		from := source.Intn(100)
		o.Row = row(words[source.Intn(4)], words[source.Intn(3)], from, min(100, from+1+source.Intn(1+source.Intn(60))))
		if o.Tab == impl.TabParent && source.Intn(2) == 0 {
			o.Kind, o.Row.Span = impl.OpMerge, span(0, 100)
		}
		if o.Kind == impl.OpDelete {
			o.Row.Text = ""
		}
		list = append(list, o)
	}
	switch source.Intn(40) {
	case 0:
		return nil
	case 1:
		list[len(list)-1].Row.Key = ""
	}
	return list
}

func valid(list []impl.Op) bool {
	return len(list) >= 1 && len(list) <= impl.OpsMax && !slices.ContainsFunc(list, func(o impl.Op) bool { return !impl.OpOk(o) })
}

func TestSomeTransactions(t *testing.T) {
	source := rand.New(rand.NewSource(6))
	seen := map[int]int{}
	for range 60 {
		d := impl.DbNew()
		for range 50 {
			list := someTx(source)
			if !valid(list) {
				if got, code := impl.DbDo(d, list); code != impl.CodeForm || !sameDb(got, d) {
					t.Error("form", list, got, code)
				}
				continue
			}
			var code int
			d, code = checkDo(t, d, list)
			seen[code]++
		}
	}
	if len(seen) != 4 || slices.Min([]int{seen[impl.CodeFine], seen[impl.CodeThere], seen[impl.CodeBad], seen[impl.CodeFull]}) < 20 {
		t.Error("codes", seen)
	}
}

// P35
func TestTheForeignKeyAlwaysHolds(t *testing.T) {
	source := rand.New(rand.NewSource(35))
	for range 100 {
		var list [][]impl.Op
		for range source.Intn(2 * impl.PlayMax) {
			list = append(list, someTx(source))
		}
		d := impl.DbPlay(list)
		if !impl.DbOk(d) {
			t.Fatal("is not valid", list, d)
		}
		for stamp := range d.Tabs[0].Now + 1 {
			if bad, ok := impl.RelBad(impl.StoreAt(d.Tabs[1], stamp), impl.StoreAt(d.Tabs[0], stamp)); !ok || len(bad) > 0 {
				t.Error(list, stamp, bad, ok)
			}
		}
	}
}

// P37
func TestDbPlayIsASequenceOfTransactions(t *testing.T) {
	source := rand.New(rand.NewSource(37))
	for i := range 100 {
		var list [][]impl.Op
		for range i % 40 {
			list = append(list, someTx(source))
		}
		want := impl.DbNew()
		for _, one := range list[:min(len(list), impl.PlayMax)] {
			if next, code := impl.DbDo(want, one); code == impl.CodeFine {
				want = next
			}
		}
		if got := impl.DbPlay(list); !sameDb(got, want) {
			t.Error(list, got, want)
		}
	}
}

func TestDbPlayAtEdges(t *testing.T) {
	if got := impl.DbPlay(nil); !sameDb(got, impl.DbNew()) {
		t.Error("of nothing", got)
	}
	var list [][]impl.Op
	for i := range impl.PlayMax + 5 {
		list = append(list, tx(mergeOp(0, row("p", "x", i, i+1))))
	}
	for many := impl.PlayMax - 1; many <= len(list); many++ {
		got := impl.DbPlay(list[:many])
		now := min(many, impl.PlayMax)
		if !slices.Equal(impl.DbSee(got, 0, 99, span(0, 100)), rows(row("p", "x", 0, now))) || got.Tabs[0].Now != now || got.Tabs[1].Now != now {
			t.Error(many, got)
		}
	}
	failing := [][]impl.Op{tx(insertOp(1, row("c", "p", 0, 9))), nil, tx(impl.Op{}), slices.Repeat(list[0], 5)}
	for len(failing) < impl.PlayMax-1 {
		failing = append(failing, nil)
	}
	got := impl.DbPlay(slices.Concat(failing, list))
	if !sameDb(got, played(t, list[0])) {
		t.Error("those that fail count, too", got)
	}
	if got := impl.DbPlay(append(failing, list[0], nil)); !sameDb(got, played(t, list[0])) {
		t.Error("nothing else happens", got)
	}
}

// P39
func TestQueriesAtAPointAndAStampAreSnapshotsOfStates(t *testing.T) {
	d := family(t)
	for tab, s := range d.Tabs {
		for _, stamp := range someStamps(s) {
			for _, at := range []int{math.MinInt, -1, 0, 9, 10, 14, 15, 17, 18, 19, 20, 24, 25, 29, 30, 99, 100, math.MaxInt} {
				var want []impl.Pair
				for _, r := range stateOf(s, stamp) {
					if inside(set(r.Span), at) {
						want = append(want, impl.Pair{Key: r.Key, Text: r.Text})
					}
				}
				got := impl.DbAsk(d, tab, stamp, at)
				if !slices.Equal(got, want) || !slices.Equal(got, impl.RelAt(impl.StoreAt(s, stamp), at)) {
					t.Error(tab, stamp, at, got, want)
				}
			}
		}
	}
	for _, tab := range badTabs() {
		if got := impl.DbAsk(d, tab, 3, 15); len(got) > 0 {
			t.Error("no table", tab, got)
		}
	}
}

// P40
func TestQueriesForAPeriodAgreeWithThoseForItsPoints(t *testing.T) {
	d := family(t)
	for tab, s := range d.Tabs {
		for _, stamp := range []int{-1, 0, 1, 2, 3, 4, impl.Forever, math.MaxInt} {
			for _, within := range append(edgeSpans(), span(10, 30), span(12, 19), span(19, 22), span(30, 100), span(20, 100), span(99, 100)) {
				got := impl.DbSee(d, tab, stamp, within)
				if !impl.RelOk(got) || len(got) > len(stateOf(s, stamp)) {
					t.Error("table", tab, stamp, within, got)
				}
				for at := -1; at <= impl.TimeMax+1; at++ {
					var want []impl.Pair
					if inside(set(within), at) {
						want = impl.DbAsk(d, tab, stamp, at)
					}
					if !slices.Equal(impl.RelAt(got, at), want) {
						t.Error(tab, stamp, within, at, got)
					}
				}
			}
		}
	}
}

func TestDbSeeAtEdges(t *testing.T) {
	d := family(t)
	for _, c := range []struct {
		tab, stamp int
		s          impl.Span
		want       []impl.Row
	}{
		{0, 1, span(0, 100), rows(row("p", "x", 10, 30), row("q", "x", 0, 100))},
		{0, 3, span(0, 100), rows(row("p", "x", 10, 18), row("p", "y", 18, 20), row("p", "x", 20, 30), row("q", "x", 0, 100))},
		{0, 3, span(19, 21), rows(row("p", "y", 19, 20), row("p", "x", 20, 21), row("q", "x", 19, 21))},
		{0, 2, span(19, 21), rows(row("p", "x", 19, 21), row("q", "x", 19, 21))},
		{0, 1000, span(29, 100), rows(row("p", "x", 29, 30), row("q", "x", 29, 100))},
		{0, 3, span(30, 100), rows(row("q", "x", 30, 100))},
		{1, 3, span(0, 15), rows(row("b", "q", 0, 15))},
		{1, 3, span(99, 100), rows(row("b", "q", 99, 100))},
		{1, 1, span(0, 100), nil},
		{1, 0, span(0, 100), nil},
		{1, -1, span(0, 100), nil},
	} {
		if got := impl.DbSee(d, c.tab, c.stamp, c.s); !slices.Equal(got, c.want) {
			t.Error(c, got)
		}
	}
	for _, tab := range badTabs() {
		if got := impl.DbSee(d, tab, 3, span(0, 100)); len(got) > 0 {
			t.Error("no table", tab, got)
		}
	}
	for _, s := range badSpans() {
		if got := impl.DbSee(d, 0, 3, s); len(got) > 0 {
			t.Error("no period", s, got)
		}
	}
}

func roomyDb(d impl.Db) impl.Db {
	tabs := make([]impl.Store, len(d.Tabs), len(d.Tabs)+2)
	for i, s := range d.Tabs {
		tabs[i] = roomyStore(s)
	}
	return impl.Db{Tabs: tabs}
}

func scribbleDb(d impl.Db) {
	for _, s := range d.Tabs {
		scribble(s.Vers, ver(row("q", "q", 77, 88), 7, 8))
	}
	scribble(d.Tabs, store(7))
}

// wholeDb is all memory that a database has, with the spare capacity.
func wholeDb(d impl.Db) impl.Db {
	var whole impl.Db
	for _, s := range d.Tabs[:cap(d.Tabs)] {
		whole.Tabs = append(whole.Tabs, impl.Store{Now: s.Now, Vers: slices.Clone(s.Vers[:cap(s.Vers)])})
	}
	return whole
}

func TestDbResultsShareNoMemory(t *testing.T) {
	calls := map[string]func(d impl.Db, list []impl.Op) impl.Db{
		"DbDo":   func(d impl.Db, list []impl.Op) impl.Db { next, _ := impl.DbDo(d, list); return next },
		"DbPlay": func(d impl.Db, list []impl.Op) impl.Db { return impl.DbPlay([][]impl.Op{list, list}) },
		"DbAsk": func(d impl.Db, list []impl.Op) impl.Db {
			scribble(impl.DbAsk(d, 0, 3, 15), impl.Pair{Key: "q"})
			return d
		},
		"DbSee": func(d impl.Db, list []impl.Op) impl.Db {
			scribble(impl.DbSee(d, 0, 3, span(0, 100)), impl.Row{})
			return d
		},
	}
	for name, call := range calls {
		for _, one := range []impl.Db{family(t), impl.DbNew(), db(store(30), store(30)), fullDb(t)} {
			for _, ops := range [][]impl.Op{
				nil, tx(impl.Op{}), tx(insertOp(0, row("z", "z", 0, 9))), tx(insertOp(0, row("p", "x", 15, 16))),
				tx(deleteOp(0, "p", 0, 100)), tx(updateOp(1, row("zz", "z", 0, 9))),
			} {
				d, list := roomyDb(one), slices.Grow(slices.Clone(ops), 4)
				before, opsBefore := wholeDb(d), slices.Clone(list[:cap(list)])
				got := call(d, list)
				if !sameDb(wholeDb(d), before) || !slices.Equal(list[:cap(list)], opsBefore) {
					t.Error(name, "changes an argument", one, ops)
				}
				if name == "DbDo" || name == "DbPlay" {
					scribbleDb(got)
				}
				if !sameDb(wholeDb(d), before) {
					t.Error(name, "shares memory", one, ops)
				}
			}
		}
	}
	fresh := impl.DbNew()
	scribbleDb(fresh)
	if got := impl.DbNew(); !sameDb(got, db(store(0), store(0))) {
		t.Error("DbNew keeps its result", got)
	}
}

// The two stores of a result are of memory of their own.
func TestDbStoresShareNoMemory(t *testing.T) {
	d := family(t)
	for _, list := range [][]impl.Op{nil, tx(insertOp(0, row("z", "z", 0, 9))), tx(deleteOp(0, "p", 0, 100))} {
		got, _ := impl.DbDo(d, list)
		want := slices.Clone(got.Tabs[1].Vers)
		scribble(got.Tabs[0].Vers, impl.Ver{})
		if !slices.Equal(got.Tabs[1].Vers, want) {
			t.Error(list, got)
		}
	}
}
