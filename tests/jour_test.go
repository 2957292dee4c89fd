package tests

import (
	"fmt"
	"hash/crc32"
	"math"
	"math/rand"
	"regexp"
	"slices"
	"strconv"
	"strings"
	"testing"

	"loop.example/varve/impl"
)

// lineOf is the tests' own way of writing an operation.
func lineOf(o impl.Op) string {
	text := o.Row.Text
	if text == "" {
		text = "-"
	}
	word := map[int]string{impl.OpInsert: "insert", impl.OpDelete: "delete", impl.OpUpdate: "update", impl.OpMerge: "merge"}[o.Kind]
	return fmt.Sprintf("%s %d %s %s %d %d\n", word, o.Tab, o.Row.Key, text, o.Row.Span.From, o.Row.Span.To)
}

func linesOf(list []impl.Op) string {
	text := ""
	for _, o := range list {
		text += lineOf(o)
	}
	return text
}

func recordText(text string) string {
	return fmt.Sprintf("%d %d %s;", len(text), crc32.ChecksumIEEE([]byte(text)), text)
}

func record(list []impl.Op) string {
	return recordText(linesOf(list))
}

func journal(list ...[]impl.Op) string {
	j := ""
	for _, one := range list {
		j += record(one)
	}
	return j
}

var linePattern = regexp.MustCompile(`^(insert|delete|update|merge) ([01]) ([a-z0-9+]{1,9}) ([a-z0-9+]{1,9}|-) (0|[1-9][0-9]?) ([1-9][0-9]?|100)\n$`)

// opWritten reads a line by its pattern, as far as it is an operation.
func opWritten(line string) (impl.Op, bool) {
	part := linePattern.FindStringSubmatch(line)
	if part == nil {
		return impl.Op{}, false
	}
	kind := 1 + slices.Index([]string{"insert", "delete", "update", "merge"}, part[1])
	tab, _ := strconv.Atoi(part[2])
	from, _ := strconv.Atoi(part[5])
	to, _ := strconv.Atoi(part[6])
	if from >= to || (kind == impl.OpDelete) != (part[4] == "-") {
		return impl.Op{}, false
	}
	return impl.Op{Kind: kind, Tab: tab, Row: row(part[3], strings.TrimPrefix(part[4], "-"), from, to)}, true
}

func txWritten(text string) ([]impl.Op, bool) {
	var list []impl.Op
	lines := strings.SplitAfter(text, "\n")
	for _, line := range lines[:len(lines)-1] {
		o, ok := opWritten(line)
		if !ok {
			return nil, false
		}
		list = append(list, o)
	}
	if lines[len(lines)-1] != "" || len(list) < 1 || len(list) > impl.OpsMax {
		return nil, false
	}
	return list, true
}

var recordPattern = regexp.MustCompile(`^(0|[1-9][0-9]*) (0|[1-9][0-9]*) `)

// journalRead is what JourRead has to return, read by the written length.
func journalRead(j string) (impl.Db, int) {
	if len(j) > impl.JourMax {
		return impl.Db{}, 0
	}
	d, read := impl.DbNew(), 0
	for {
		rest := j[read:]
		part := recordPattern.FindStringSubmatch(rest)
		if part == nil {
			return d, read
		}
		many, err := strconv.Atoi(part[1])
		begin := len(part[0])
		if err != nil || many >= len(rest)-begin || rest[begin+many] != ';' {
			return d, read
		}
		text := rest[begin : begin+many]
		list, ok := txWritten(text)
		if !ok || part[2] != fmt.Sprint(crc32.ChecksumIEEE([]byte(text))) {
			return d, read
		}
		next, code := dbAfter(d, list)
		if code != impl.CodeFine {
			return d, read
		}
		d, read = next, read+begin+many+1
	}
}

// checkRead says what P46 does, and that the result is the only one. A journal
// of JourMax bytes cannot be followed by `x`.
func checkRead(t *testing.T, j string) (impl.Db, int) {
	t.Helper()
	want, wantMany := journalRead(j)
	d, many := impl.JourRead(j)
	if many != wantMany || !sameDb(d, want) {
		t.Errorf("JourRead of %q is %v %d and not %v %d", j, d, many, want, wantMany)
		return want, wantMany
	}
	if len(j) > impl.JourMax {
		return d, many
	}
	if !impl.DbOk(d) {
		t.Errorf("%q is no database: %v", j, d)
	}
	for _, more := range []string{"", "x"} {
		again := j[:many] + more
		if len(again) > impl.JourMax {
			continue
		}
		if other, otherMany := impl.JourRead(again); otherMany != many || !sameDb(other, d) {
			t.Errorf("again %q: %d bytes, not %d", again, otherMany, many)
		}
	}
	return d, many
}

// P41
func TestCrcIsCrc32(t *testing.T) {
	for _, c := range []struct {
		text string
		want int
	}{
		{"123456789", 3421780262},
		{"", 0},
		{"a", 3904355907},
		{"\x00", 3523407757},
		{"\x00\x00\x00\x00", 558161692},
		{"\xff", 4278190080},
		{"\xff\xff\xff\xff", 4294967295},
		{"é", int(crc32.ChecksumIEEE([]byte{0xc3, 0xa9}))},
		{"\xe9", int(crc32.ChecksumIEEE([]byte{0xe9}))},
		{strings.Repeat("\x80\xfe;", 5000), int(crc32.ChecksumIEEE([]byte(strings.Repeat("\x80\xfe;", 5000))))},
	} {
		if got := impl.Crc(c.text); got != c.want {
			t.Errorf("%.20q: %d and not %d", c.text, got, c.want)
		}
	}
	for i := range 256 * 256 {
		text := string([]byte{byte(i), byte(i >> 8)})
		if got := impl.Crc(text); got != int(crc32.ChecksumIEEE([]byte(text))) {
			t.Errorf("%q: %d", text, got)
		}
	}
	source := rand.New(rand.NewSource(41))
	for many := range 200 {
		text := make([]byte, many)
		source.Read(text)
		if got := impl.Crc(string(text)); got != int(crc32.ChecksumIEEE(text)) {
			t.Errorf("%q: %d", text, got)
		}
	}
}

// P41
func TestASingleBitChangesTheChecksum(t *testing.T) {
	for _, text := range []string{"1", "123456789", "\x00\x00\x00", "\xff\xff", "insert 0 a x 0 20\n", strings.Repeat("ab\xf0", 50)} {
		sum := impl.Crc(text)
		for bit := range 8 * len(text) {
			other := []byte(text)
			other[bit/8] ^= 1 << (bit % 8)
			if impl.Crc(string(other)) == sum {
				t.Errorf("%q and %q have the same sum", text, other)
			}
		}
	}
}

func checkPut(t *testing.T, list []impl.Op) {
	t.Helper()
	text := impl.TxPut(list)
	if text != linesOf(list) {
		t.Errorf("TxPut of %v is %q", list, text)
	}
	if got, ok := impl.TxGet(text); !ok || !slices.Equal(got, list) {
		t.Errorf("TxGet of %q is %v %t", text, got, ok)
	}
}

// P42
func TestDecodingATransactionInvertsEncoding(t *testing.T) {
	var ops []impl.Op
	for _, tab := range []int{impl.TabParent, impl.TabChild} {
		for i, word := range goodWords() {
			text := goodWords()[len(goodWords())-1-i]
			for _, s := range edgeSpans() {
				r := impl.Row{Key: word, Text: text, Span: s}
				ops = append(ops, insertOp(tab, r), deleteOp(tab, word, s.From, s.To), updateOp(tab, r), mergeOp(tab, r))
			}
		}
	}
	for i, o := range ops {
		checkPut(t, tx(o))
		for many := 2; many <= impl.OpsMax; many++ {
			list := tx(o)
			for len(list) < many {
				list = append(list, ops[(i*7+11*len(list))%len(ops)])
			}
			checkPut(t, list)
		}
		checkPut(t, slices.Repeat(tx(o), impl.OpsMax))
	}
}

func TestTxPutAtEdges(t *testing.T) {
	for _, c := range []struct {
		list []impl.Op
		want string
	}{
		{tx(insertOp(0, row("a", "x", 0, 20))), "insert 0 a x 0 20\n"},
		{tx(deleteOp(1, "q", 1, 2)), "delete 1 q - 1 2\n"},
		{tx(updateOp(1, row("123456789", "+", 99, 100))), "update 1 123456789 + 99 100\n"},
		{tx(mergeOp(0, row("0", "00", 0, 100))), "merge 0 0 00 0 100\n"},
		{tx(deleteOp(0, "insert", 0, 1), mergeOp(1, row("merge", "delete", 9, 10))), "delete 0 insert - 0 1\nmerge 1 merge delete 9 10\n"},
		{slices.Repeat(tx(deleteOp(1, "q", 1, 2)), 4), "delete 1 q - 1 2\ndelete 1 q - 1 2\ndelete 1 q - 1 2\ndelete 1 q - 1 2\n"},
	} {
		if got := impl.TxPut(c.list); got != c.want {
			t.Errorf("%v: %q and not %q", c.list, got, c.want)
		}
		if got, ok := impl.TxGet(c.want); !ok || !slices.Equal(got, c.list) {
			t.Errorf("%q: %v %t", c.want, got, ok)
		}
	}
	for _, list := range badTransactions() {
		if got := impl.TxPut(list); got != "" {
			t.Errorf("%v: %q", list, got)
		}
	}
}

func badTexts() []string {
	fine := "insert 0 a x 0 20\n"
	list := []string{
		"", "\n", " ", "\n\n", "-", ";", "\x00",
		"insert 0 a x 0 20", "insert 0 a x 0 20\n\n", "\ninsert 0 a x 0 20\n", "insert 0 a x 0 20\r\n", "insert 0 a x 0 20\nx",
		"insert 0 a - 0 20\n", "update 0 a - 0 20\n", "merge 1 a - 0 20\n", "delete 0 a x 0 20\n", "delete 0 a -- 0 20\n",
		"delete 0 a  0 20\n", "insert 0 a  0 20\n", "insert 0  x 0 20\n", "insert  a x 0 20\n", "insert 0 a x  20\n", "insert 0 a x 0 \n", " 0 a x 0 20\n",
		"insert 00 a x 0 20\n", "insert 01 a x 0 20\n", "insert 0 a x 00 20\n", "insert 0 a x 07 20\n", "insert 0 a x 0 020\n",
		"insert +0 a x 0 20\n", "insert -0 a x 0 20\n", "insert 0 a x -0 20\n", "insert 0 a x +0 20\n", "insert 0 a x 0 +20\n", "insert 0 a x -1 20\n", "insert -1 a x 0 20\n", "insert 0 a x -5 -1\n",
		"insert  0 a x 0 20\n", "insert 0  a x 0 20\n", "insert 0 a x 0  20\n", " insert 0 a x 0 20\n", "insert 0 a x 0 20 \n", "insert\t0 a x 0 20\n", "insert 0 a x 0 20\n ",
		"insert 0 a x 0 2_0\n", "insert 0 a x 0x0 20\n", "insert 0 a x 0 1e1\n", "insert 0 a x 0 2.0\n", "insert 0 a x 0 ٢\n", "insert 0 a x x 20\n",
		"insert 0 a x 0 101\n", "insert 0 a x 100 101\n", "insert 0 a x 20 20\n", "insert 0 a x 20 19\n", "insert 2 a x 0 20\n", "insert x a x 0 20\n",
		"insert 0 a x 0 18446744073709551636\n", "insert 0 a x 18446744073709551616 20\n", "insert 18446744073709551617 a x 0 20\n", "insert 4294967296 a x 0 20\n",
		"insert 0 a x 0 9223372036854775807\n", "insert 0 a x -9223372036854775808 20\n", "insert 0 a x 0 " + strings.Repeat("9", 5000) + "\n", "insert 0 a x " + strings.Repeat("0", 5000) + " 20\n",
		"Insert 0 a x 0 20\n", "INSERT 0 a x 0 20\n", "inser 0 a x 0 20\n", "inserts 0 a x 0 20\n", "1 0 a x 0 20\n", "put 0 a x 0 20\n", "- 0 a x 0 20\n",
		"insert 0 A x 0 20\n", "insert 0 a X 0 20\n", "insert 0 - x 0 20\n", "insert 0 abcdefghij x 0 20\n", "insert 0 a abcdefghij 0 20\n", "insert 0 a \xff 0 20\n", "delete 0 - - 0 20\n",
		"insert 0 a x 0\n", "insert 0 a x 0 20 30\n", "insert 0 a 0 20\n", "insert\n", "insert 0 a x 0 20;\n", "insert 0 a x 0 20\ndelete\n",
		strings.Repeat(fine, impl.OpsMax+1), strings.Repeat(fine, 1000), fine + "\n" + fine, fine + fine[:len(fine)-1], fine + fine + "delete 0 a x 0 20\n",
	}
	for _, word := range badWords() {
		list = append(list, "insert 0 "+word+" x 0 20\n", "insert 0 a "+word+" 0 20\n", "delete 0 "+word+" - 0 20\n")
	}
	return list
}

// P43
func TestTxGetRejectsAnyOtherString(t *testing.T) {
	for _, text := range badTexts() {
		if got, ok := impl.TxGet(text); ok || len(got) > 0 {
			t.Errorf("%.60q is %v %t", text, got, ok)
		}
	}
}

// variants are texts that differ from one in a byte or in two neighbours.
func variants(text string) []string {
	letters := "019+-; \nadxZ\x00\xff"
	list := []string{text}
	for i := range len(text) + 1 {
		for _, letter := range []byte(letters) {
			list = append(list, text[:i]+string([]byte{letter})+text[i:])
			if i < len(text) {
				list = append(list, text[:i]+string([]byte{letter})+text[i+1:])
			}
		}
		if i < len(text) {
			list = append(list, text[:i], text[:i]+text[i+1:], text[:i]+text[i:i+1]+text[i:])
		}
		if i+1 < len(text) {
			list = append(list, text[:i]+text[i+1:i+2]+text[i:i+1]+text[i+2:])
		}
	}
	return list
}

// P43
func TestTheEncodingOfTransactionsIsCanonical(t *testing.T) {
	good := 0
	for _, text := range []string{
		"insert 0 a x 0 20\n", "delete 1 q - 1 2\n", "update 1 123456789 + 99 100\n", "merge 0 10 01 9 10\n",
		"delete 0 a - 10 11\nmerge 1 + abcdefghi 0 100\n",
		"insert 0 a x 0 1\nupdate 0 a y 0 1\ndelete 0 a - 0 1\nmerge 0 a z 0 1\n",
	} {
		for _, other := range variants(text) {
			want, wantOk := txWritten(other)
			got, ok := impl.TxGet(other)
			if ok != wantOk || !slices.Equal(got, want) {
				t.Errorf("%q is %v %t and not %v %t", other, got, ok, want, wantOk)
			}
			if ok && impl.TxPut(got) != other {
				t.Errorf("%q is not %q", impl.TxPut(got), other)
			}
			if ok {
				good++
			}
		}
	}
	if good < 100 {
		t.Error("few of them are good", good)
	}
}

// P44
func TestAnAppendedTransactionIsPerformed(t *testing.T) {
	source := rand.New(rand.NewSource(44))
	fine, failed := 0, 0
	for range 40 {
		j, d := "", impl.DbNew()
		for range 40 {
			list := someTx(source)
			next, code := impl.DbDo(d, list)
			longer, ok := impl.JourAdd(j, list)
			if want := j + record(list); code == impl.CodeFine && len(want) <= impl.JourMax {
				fine++
				if !ok || longer != want {
					t.Fatalf("JourAdd of %q and %v is %q %t", j, list, longer, ok)
				}
				j, d = longer, next
			} else {
				failed++
				if ok || longer != j {
					t.Fatalf("JourAdd of %q and %v has to fail: %q %t", j, list, longer, ok)
				}
			}
			if got, many := checkRead(t, j); many != len(j) || !sameDb(got, d) {
				t.Fatalf("JourRead of %q is %v %d and not %v", j, got, many, d)
			}
		}
	}
	if fine < 200 || failed < 200 {
		t.Error("added", fine, "and not", failed)
	}
}

func TestJournalOfAFamily(t *testing.T) {
	j := ""
	for _, list := range familyTxs() {
		longer, ok := impl.JourAdd(j, list)
		if !ok || longer != j+record(list) {
			t.Fatalf("%q %t", longer, ok)
		}
		j = longer
	}
	if want := journal(familyTxs()...); j != want {
		t.Errorf("%q and not %q", j, want)
	}
	if got, many := checkRead(t, j); many != len(j) || !sameDb(got, family(t)) {
		t.Error(got, many)
	}
	first := "38 " + strconv.Itoa(impl.Crc("insert 0 p x 10 30\ninsert 0 q x 0 100\n")) + " insert 0 p x 10 30\ninsert 0 q x 0 100\n;"
	if !strings.HasPrefix(j, first) {
		t.Errorf("%q does not begin with %q", j, first)
	}
	if got, many := impl.JourRead(""); many != 0 || !sameDb(got, impl.DbNew()) {
		t.Error("of no byte", got, many)
	}
}

// wrongRecords has what resembles the record of a transaction.
func wrongRecords(list []impl.Op) []string {
	text := linesOf(list)
	many, sum := strconv.Itoa(len(text)), strconv.Itoa(int(crc32.ChecksumIEEE([]byte(text))))
	other := strconv.Itoa(int(crc32.ChecksumIEEE([]byte(text))) ^ 1)
	wrong := []string{
		many + " " + sum + " " + text, many + " " + sum + " " + text + ",", many + " " + sum + " " + text + "x;", many + " " + sum + " " + text + " ;", many + " " + sum + " " + text + "\n;",
		many + " " + other + " " + text + ";", many + " 0 " + text + ";", many + " " + strconv.Itoa(1<<32) + " " + text + ";", many + "  " + text + ";", many + " " + text + ";", text + ";", ";",
		strconv.Itoa(len(text)-1) + " " + sum + " " + text + ";", strconv.Itoa(len(text)+1) + " " + sum + " " + text + ";", "0 " + sum + " " + text + ";", "-1 " + sum + " " + text + ";",
		strings.Repeat("9", 30) + " " + sum + " " + text + ";", "9223372036854775807 " + sum + " " + text + ";", "x " + sum + " " + text + ";", many + " x " + text + ";",
		"0" + many + " " + sum + " " + text + ";", many + " 0" + sum + " " + text + ";", "+" + many + " " + sum + " " + text + ";", many + " +" + sum + " " + text + ";", many + " -" + sum + " " + text + ";",
		" " + many + " " + sum + " " + text + ";", many + "  " + sum + " " + text + ";", many + " " + sum + "  " + text + ";", many + "\n" + sum + " " + text + ";", many + " " + sum + "\n" + text + ";",
		sum + " " + many + " " + text + ";", ";" + many + " " + sum + " " + text + ";", "\n" + many + " " + sum + " " + text + ";", "x" + many + " " + sum + " " + text + ";",
		"0 0 ;",
	}
	for _, text := range badTexts() {
		if len(text) < 200 {
			wrong = append(wrong, recordText(text))
		}
	}
	return wrong
}

func TestJourReadStopsAtAWrongRecord(t *testing.T) {
	next := tx(insertOp(0, row("z", "z", 0, 9)))
	later := tx(insertOp(0, row("y", "z", 0, 9)))
	for _, j := range []string{"", journal(familyTxs()...)} {
		for _, wrong := range wrongRecords(next) {
			for _, more := range []string{"", record(later), record(next)} {
				if _, many := checkRead(t, j+wrong+more); many != len(j) {
					t.Errorf("%q behind %q: %d bytes", wrong, j, many)
				}
			}
			if got, ok := impl.JourAdd(j+wrong, later); ok || got != j+wrong {
				t.Errorf("JourAdd behind %q: %q %t", wrong, got, ok)
			}
			if got := impl.JourTear(j+wrong, later, 9); got != j+wrong {
				t.Errorf("JourTear behind %q: %q", wrong, got)
			}
		}
	}
}

// P46
func TestReadingAJournalIsStable(t *testing.T) {
	j := journal(familyTxs()[:2]...)
	for _, other := range variants(j) {
		checkRead(t, other)
	}
	for _, more := range []string{"x", " ", ";", "\n", "0", "1 ", "\x00", "\xff", ";;", record(nil), j, record(familyTxs()[2]) + "x" + record(familyTxs()[2])} {
		d, many := checkRead(t, j+more)
		if !strings.HasPrefix(more, record(familyTxs()[2])) && (many != len(j) || !sameDb(d, played(t, familyTxs()[:2]...))) {
			t.Errorf("%q behind the last record: %v %d", more, d, many)
		}
		if got, ok := impl.JourAdd(j+more, familyTxs()[2]); ok || got != j+more {
			t.Errorf("JourAdd behind %q: %q %t", more, got, ok)
		}
	}
}

// rowsJournal fills the table of parents.
func rowsJournal() [][]impl.Op {
	var list [][]impl.Op
	for i := 0; i < impl.RowsMax; i += 4 {
		list = append(list, tx(insertOp(0, row("a", "x", 4*i, 4*i+3)), insertOp(0, row("a", "x", 4*i+4, 4*i+7)), insertOp(0, row("a", "x", 4*i+8, 4*i+11)), insertOp(0, row("a", "x", 4*i+12, 4*i+15))))
	}
	return list
}

func TestAWholeRecordThatDoesNotGo(t *testing.T) {
	stamps := slices.Repeat([][]impl.Op{tx(mergeOp(0, row("p", "x", 0, 9)))}, impl.StampMax)
	for _, c := range []struct {
		name string
		list [][]impl.Op
		last []impl.Op
		code int
	}{
		{"there", familyTxs(), tx(insertOp(0, row("p", "x", 29, 40))), impl.CodeThere},
		{"there again", familyTxs()[:1], familyTxs()[0], impl.CodeThere},
		{"there behind what goes", familyTxs(), tx(insertOp(0, row("z", "x", 0, 9)), insertOp(0, row("z", "x", 8, 9))), impl.CodeThere},
		{"no parent", nil, tx(insertOp(1, row("c", "p", 0, 9))), impl.CodeBad},
		{"no parent any more", familyTxs(), tx(deleteOp(0, "p", 24, 25)), impl.CodeBad},
		{"no row is left", rowsJournal(), tx(insertOp(0, row("b", "x", 0, 1))), impl.CodeFull},
		{"no stamp is left", stamps, tx(mergeOp(0, row("q", "x", 0, 9))), impl.CodeFull},
	} {
		d, j := played(t, c.list...), journal(c.list...)
		if _, code := impl.DbDo(d, c.last); code != c.code {
			t.Error(c.name, code)
		}
		for _, more := range []string{"", "x", record(tx(deleteOp(1, "c", 0, 9)))} {
			if got, many := checkRead(t, j+record(c.last)+more); many != len(j) || !sameDb(got, d) {
				t.Error(c.name, got, many, "and not", len(j))
			}
		}
		if got, ok := impl.JourAdd(j, c.last); ok || got != j {
			t.Errorf("%s: JourAdd %q %t", c.name, got, ok)
		}
		for _, bytes := range []int{-1, 0, 9, 1000} {
			if got := impl.JourTear(j, c.last, bytes); got != j {
				t.Errorf("%s: JourTear %q", c.name, got)
			}
		}
		if got, ok := impl.JourAdd(j+record(c.last), tx(deleteOp(1, "c", 0, 9))); ok || got != j+record(c.last) {
			t.Errorf("%s: JourAdd behind it %q %t", c.name, got, ok)
		}
	}
}

// P45
func TestATornRecordIsIgnored(t *testing.T) {
	lists := familyTxs()
	lists = append(lists, tx(deleteOp(0, "p", 25, 30), deleteOp(0, "p", 10, 15), mergeOp(1, row("abcdefghi", "q", 99, 100)), updateOp(1, row("zz", "q", 0, 100))))
	for i, list := range lists {
		j, before, after := journal(lists[:i]...), played(t, lists[:i]...), played(t, lists[:i+1]...)
		whole := record(list)
		cuts := []int{math.MinInt, math.MinInt + 1, -1000, math.MaxInt - 1, math.MaxInt, math.MaxInt - len(j)}
		for bytes := -3; bytes <= len(whole)+3; bytes++ {
			cuts = append(cuts, bytes)
		}
		for _, bytes := range cuts {
			torn := impl.JourTear(j, list, bytes)
			if want := j + whole[:min(max(bytes, 0), len(whole))]; torn != want {
				t.Errorf("at %d: %q and not %q", bytes, torn, want)
			}
			got, many := checkRead(t, torn)
			if bytes >= len(whole) {
				if many != len(j)+len(whole) || !sameDb(got, after) {
					t.Errorf("whole at %d: %v %d", bytes, got, many)
				}
			} else if many != len(j) || !sameDb(got, before) {
				t.Errorf("torn at %d: %v %d", bytes, got, many)
			}
		}
	}
}

func TestJournalsRejectBadTransactions(t *testing.T) {
	for _, j := range []string{"", journal(familyTxs()...)} {
		for _, list := range badTransactions() {
			if got, ok := impl.JourAdd(j, list); ok || got != j {
				t.Errorf("JourAdd %v: %q %t", list, got, ok)
			}
			for _, bytes := range []int{-1, 0, 5, 1000} {
				if got := impl.JourTear(j, list, bytes); got != j {
					t.Errorf("JourTear %v: %q", list, got)
				}
			}
		}
	}
}

// txOfRecord has a transaction whose record has so many bytes. It goes, for
// merging always does while there is room.
func txOfRecord(t *testing.T, many int) []impl.Op {
	t.Helper()
	merge := func(key int, text int) impl.Op {
		return mergeOp(0, row(strings.Repeat("k", key), strings.Repeat("t", text), 0, 20))
	}
	for others := range impl.OpsMax {
		for width := 1; width <= impl.WordMax; width++ {
			for key := 1; key <= impl.WordMax; key++ {
				for text := 1; text <= impl.WordMax; text++ {
					list := append(slices.Repeat(tx(merge(width, width)), others), merge(key, text))
					if len(record(list)) == many {
						return list
					}
				}
			}
		}
	}
	t.Fatal("no record has so many bytes", many)
	return nil
}

// longJournal leaves so many bytes of JourMax.
func longJournal(t *testing.T, left int) (string, [][]impl.Op) {
	t.Helper()
	var list [][]impl.Op
	j := ""
	for rest := impl.JourMax - left; rest > 0; rest = impl.JourMax - left - len(j) {
		many := min(rest, 145)
		if rest > 145 && rest < 2*145 {
			many = rest / 2
		}
		list = append(list, txOfRecord(t, many))
		j += record(list[len(list)-1])
	}
	return j, list
}

func TestJournalsOfJourMaxBytes(t *testing.T) {
	j, lists := longJournal(t, 0)
	if got, many := checkRead(t, j); many != impl.JourMax || !sameDb(got, played(t, lists...)) {
		t.Error("just JourMax", got, many)
	}
	small := tx(deleteOp(0, "z", 0, 1))
	if got, ok := impl.JourAdd(j, small); ok || got != j {
		t.Error("no byte is left", len(got), ok)
	}
	for _, more := range []string{"x", record(small), strings.Repeat("x", 10000)} {
		if got, many := impl.JourRead(j + more); many != 0 || got.Tabs != nil {
			t.Error("more than JourMax", len(more), got, many)
		}
		if got, ok := impl.JourAdd(j+more, small); ok || got != j+more {
			t.Error("JourAdd", len(more), len(got), ok)
		}
		if got := impl.JourTear(j+more, small, 5); got != j+more {
			t.Error("JourTear", len(more), len(got))
		}
	}
	if got, many := checkRead(t, strings.Repeat("x", impl.JourMax)); many != 0 || !sameDb(got, impl.DbNew()) {
		t.Error("no record", got, many)
	}
	if got, many := impl.JourRead(strings.Repeat("x", impl.JourMax+1)); many != 0 || got.Tabs != nil {
		t.Error("no record and too long", got, many)
	}
	most, before := longJournal(t, 60)
	for many := 58; many <= 62; many++ {
		list := txOfRecord(t, many)
		longer, ok := impl.JourAdd(most, list)
		if many > 60 {
			if ok || longer != most || impl.JourTear(most, list, many) != most || impl.JourTear(most, list, 5) != most {
				t.Error("too many bytes", many, len(longer), ok)
			}
			continue
		}
		if !ok || longer != most+record(list) || impl.JourTear(most, list, many) != longer || impl.JourTear(most, list, many-1) != longer[:len(longer)-1] {
			t.Error("as many bytes as there may be", many, len(longer), ok)
		}
		if got, read := checkRead(t, longer); read != len(longer) || !sameDb(got, played(t, append(slices.Clone(before), list)...)) {
			t.Error("is not read", many, read)
		}
	}
}

func TestJournalResultsShareNoMemory(t *testing.T) {
	j := journal(familyTxs()...)
	for _, ops := range append(familyTxs(), nil, tx(impl.Op{}), tx(deleteOp(1, "a", 0, 100)), slices.Repeat(tx(mergeOp(0, row("z", "z", 0, 9))), 5)) {
		list := slices.Grow(slices.Clone(ops), 4)
		before := slices.Clone(list[:cap(list)])
		text := impl.TxPut(list)
		impl.JourAdd(j, list)
		impl.JourAdd("", list)
		impl.JourTear(j, list, 9)
		if !slices.Equal(list[:cap(list)], before) {
			t.Error("an argument has changed", ops)
		}
		got, _ := impl.TxGet(text)
		scribble(got, impl.Op{})
		if again, ok := impl.TxGet(text); ok && !slices.Equal(again, ops) {
			t.Error("TxGet keeps its result", again)
		}
	}
	first, _ := impl.JourRead(j)
	second, _ := impl.JourRead(j)
	child := slices.Clone(first.Tabs[1].Vers)
	scribble(first.Tabs[0].Vers, impl.Ver{})
	if !slices.Equal(first.Tabs[1].Vers, child) {
		t.Error("the stores of a result share memory", first)
	}
	scribbleDb(first)
	if third, _ := impl.JourRead(j); !sameDb(second, family(t)) || !sameDb(third, second) {
		t.Error("JourRead keeps its result", second, third)
	}
}
