package tests

import (
	"fmt"
	"math/rand"
	"regexp"
	"slices"
	"strconv"
	"strings"
	"testing"

	"loop.example/varve/impl"
)

// model is the tests' own session: it reads lines by patterns, and reckons
// databases point by point.
type model struct {
	db      impl.Db
	started bool
	waiting []impl.Op
}

var (
	sixWords   = regexp.MustCompile(`^[^ ]+( [^ ]+){5}$`)
	seePattern = regexp.MustCompile(`^see ([01]) (0|[1-9][0-9]{0,8})$`)
	atPattern  = regexp.MustCompile(`^at ([01]) (0|[1-9][0-9]{0,8}) (0|[1-9][0-9]?)$`)
)

func answerTo(code int) string {
	switch code {
	case impl.CodeFine:
		return "ok"
	case impl.CodeForm:
		return "form"
	case impl.CodeThere:
		return "there"
	case impl.CodeBad:
		return "bad"
	}
	return "full"
}

func (m *model) perform(list []impl.Op) string {
	if len(list) == 0 {
		return "form"
	}
	next, code := dbAfter(m.db, list)
	m.db = next
	return answerTo(code)
}

func (m *model) operation(line string) string {
	o, ok := opWritten(line + "\n")
	switch {
	case !ok:
		return "form"
	case !m.started:
		return m.perform(tx(o))
	case len(m.waiting) >= impl.OpsMax:
		return "full"
	}
	m.waiting = append(m.waiting, o)
	return "wait"
}

func (m *model) state(tab string, stamp string) []impl.Row {
	number, _ := strconv.Atoi(stamp)
	return stateOf(m.db.Tabs[strings.Index("01", tab)], number)
}

func (m *model) see(tab string, stamp string) string {
	text := ""
	for _, r := range m.state(tab, stamp) {
		text += fmt.Sprintf("%s=%s@%d-%d,", r.Key, r.Text, r.Span.From, r.Span.To)
	}
	return text
}

func (m *model) at(tab string, stamp string, point string) string {
	number, _ := strconv.Atoi(point)
	text := ""
	for _, r := range m.state(tab, stamp) {
		if inside(set(r.Span), number) {
			text += fmt.Sprintf("%s=%s,", r.Key, r.Text)
		}
	}
	return text
}

func (m *model) transaction(line string) string {
	if m.started == (line == "begin") {
		return "what"
	}
	list := m.waiting
	m.started, m.waiting = line == "begin", nil
	if line == "end" {
		return m.perform(list)
	}
	return "ok"
}

func (m *model) answer(line string) string {
	if sixWords.MatchString(line) {
		return m.operation(line)
	}
	if part := seePattern.FindStringSubmatch(line); part != nil {
		return m.see(part[1], part[2])
	}
	if part := atPattern.FindStringSubmatch(line); part != nil {
		return m.at(part[1], part[2], part[3])
	}
	switch line {
	case "begin", "end", "undo":
		return m.transaction(line)
	case "now":
		return fmt.Sprintf("%d %d", m.db.Tabs[0].Now, len(m.db.Tabs[0].Vers)+len(m.db.Tabs[1].Vers))
	}
	return "what"
}

// answersTo has one answer for each of the first SessionMax lines.
func answersTo(lines []string) []string {
	m := model{db: impl.DbNew()}
	var list []string
	for i, line := range lines {
		if i < impl.SessionMax {
			list = append(list, m.answer(line))
		}
	}
	return list
}

func output(answers []string) string {
	text := ""
	for _, answer := range answers {
		text += answer + "\n"
	}
	return text
}

// lastAnswer is the answer to one more line.
func lastAnswer(lines []string, more string) string {
	text := impl.Session(append(slices.Clone(lines), more))
	list := strings.Split(strings.TrimSuffix(text, "\n"), "\n")
	return list[len(list)-1]
}

func nowAfter(lines []string) string {
	now, _, _ := strings.Cut(lastAnswer(lines, "now"), " ")
	return now
}

// checkPrefixes says what P51 does.
func checkPrefixes(t *testing.T, lines []string) {
	t.Helper()
	whole := impl.Session(lines)
	if many := strings.Count(whole, "\n"); many != min(len(lines), impl.SessionMax) {
		t.Errorf("%q has %d lines of output", lines, many)
	}
	for i := range lines {
		part := impl.Session(lines[:i])
		if !strings.HasPrefix(whole, part) || strings.Count(part, "\n") != min(i, impl.SessionMax) {
			t.Errorf("the output of the first %d lines of %q is %q, which does not begin %q", i, lines, part, whole)
		}
	}
}

// checkPast says what P52 does, for both tables. One line has to be left for the
// question.
func checkPast(t *testing.T, lines []string) {
	t.Helper()
	all := lines[:min(len(lines), impl.SessionMax-1)]
	for i := range all {
		now := nowAfter(all[:i])
		for _, tab := range []string{"0", "1"} {
			see := "see " + tab + " " + now
			if then, later := lastAnswer(all[:i], see), lastAnswer(all, see); then != later {
				t.Errorf("%q behind %d lines is %q, and behind all of %q it is %q", see, i, then, all, later)
			}
		}
	}
}

func checkSession(t *testing.T, lines []string) {
	t.Helper()
	want := answersTo(lines)
	if got := impl.Session(lines); got != output(want) {
		t.Errorf("%q: %q and not %q", lines, got, want)
	}
	checkPrefixes(t, lines)
	checkPast(t, lines)
}

// talk is lines, each with the answer that the document requires.
type talk [][2]string

func (l talk) lines() []string {
	var list []string
	for _, one := range l {
		list = append(list, one[0])
	}
	return list
}

// check asks for the answers as they stand, and holds the model to them too.
func (l talk) check(t *testing.T) {
	t.Helper()
	var want []string
	for _, one := range l {
		want = append(want, one[1])
	}
	if got := impl.Session(l.lines()); got != output(want) {
		t.Errorf("%q: %q and not %q", l.lines(), got, output(want))
	}
	checkSession(t, l.lines())
}

func example() talk {
	return talk{
		{"insert 0 a x 0 20", "ok"},
		{"insert 1 q a 5 15", "ok"},
		{"insert 1 r b 5 15", "bad"},
		{"update 0 a y 8 12", "ok"},
		{"see 0 9", "a=x@0-8,a=y@8-12,a=x@12-20,"},
		{"delete 0 a - 10 11", "bad"},
		{"begin", "ok"},
		{"delete 1 q - 10 11", "wait"},
		{"delete 0 a - 10 11", "wait"},
		{"now", "3 5"},
		{"end", "ok"},
		{"see 0 3", "a=x@0-8,a=y@8-12,a=x@12-20,"},
		{"see 1 9", "q=a@5-10,q=a@11-15,"},
		{"see 1 1", ""},
		{"at 0 2 9", "a=x,"},
		{"insert 1 q a 3 6", "there"},
		{"merge 1 q a 3 6", "ok"},
		{"end", "what"},
		{"begin", "ok"},
		{"begin", "what"},
		{"end", "form"},
		{"see 2 1", "what"},
		{"at 0 1 100", "what"},
		{"delete 0 a x 1 2", "form"},
		{"now", "5 10"},
		{"what", "what"},
	}
}

// familyTalk has two parents and a child of each, under three stamps.
func familyTalk() talk {
	return talk{
		{"begin", "ok"}, {"insert 1 c p 15 25", "wait"}, {"insert 0 p x 10 30", "wait"}, {"end", "ok"},
		{"begin", "ok"}, {"insert 0 q + 0 100", "wait"}, {"insert 1 b q 99 100", "wait"}, {"end", "ok"},
		{"update 0 p y 18 20", "ok"},
	}
}

// P51
func TestTheExampleLineByLine(t *testing.T) {
	all := example()
	for i := range len(all) + 1 {
		var want []string
		for _, one := range all[:i] {
			want = append(want, one[1])
		}
		if got := impl.Session(all[:i].lines()); got != output(want) {
			t.Errorf("%d lines: %q and not %q", i, got, want)
		}
	}
	all.check(t)
}

func TestNoLine(t *testing.T) {
	for _, lines := range [][]string{nil, {}, make([]string, 0, 9)} {
		if got := impl.Session(lines); got != "" {
			t.Errorf("%q", got)
		}
	}
}

// noCommands are lines that are neither an operation nor a command.
func noCommands() []string {
	list := []string{
		"", "\n", "\t", "what", "ok", "help", "-", "0", "now\n", "\nnow", "now\r", "now\t", "now;", "now\x00", "\xff",
		"Now", "NOW", "Begin", "BEGIN", "End", "Undo", "See 0 0", "At 0 0 0", "no", "nows", "begi", "begins", "ends", "undone", "sees 0 0", "se 0 0", "a 0 0 0", "att 0 0 0",
		"now 0", "now now", "now 0 0", "begin 0", "begin begin", "begin end", "begin 0 0", "begin 0 0 0", "end 0", "end end", "end 0 0", "undo 0", "undo undo", "undo 0 0 0",
		"see", "see 0", "see 0 0 0", "see 0 0 0 0", "see 0 0 0 0 0 0", "at", "at 0", "at 0 0", "at 0 0 0 0", "at 0 0 0 0 0 0",
		"insert", "delete", "update", "merge", "insert 0", "insert 0 a x", "insert 0 a x 0", "delete 0 a 0 20", "update 0 a x 0", "merge 0 a x 0",
		"insert 0 a x 0 20 30", "insert 0 a x 0 20 -", "insert 0 a x y 0 20", "delete 0 a - 0 20 30", "merge 0 a x 0 20 merge 0 a x 0 20", "insert 0 a x 0 20\ninsert 0 b x 0 20",
		"now\nnow", "begin\nend", "see\t0 0", "see,0,0", "see 0\n0",
	}
	for many := range 13 {
		list = append(list, strings.Repeat(" ", many))
	}
	for _, line := range []string{"now", "begin", "end", "undo", "see 0 0", "at 0 0 0", "insert 0 a x 0 20", "delete 0 a - 0 20", "update 1 a x 0 20", "merge 0 a x 0 20"} {
		list = append(list, " "+line, line+" ", "  "+line, line+"  ", " "+line+" ")
		for i, letter := range line {
			if letter == ' ' {
				list = append(list, line[:i]+" "+line[i:], line[:i]+"  "+line[i:], line[:i]+"\t"+line[i+1:]+" ")
			}
		}
	}
	// These have six words only if the empty one is one.
	return append(list,
		"insert 0 a  0 20", "delete 0 a  0 20", "insert  a x 0 20", "insert 0  x 0 20", "insert 0 a x  20", "insert 0 a x 0 ", " 0 a x 0 20",
		"see 0 0   ", "   see 0 0", " at 0 0 0 ", "now     ", "     now", "begin     ", "  end   ", "undo     ")
}

// badNumbers are no numbers of 1 to 9 digits without leading zeros.
func badNumbers() []string {
	return []string{
		"-", "+", "x", "00", "01", "09", "000000000", "010", "+0", "-0", "+1", "-1", "-99", "1.0", "1e1", "0x1", "1_0", "0b1", "٢", "１", "1\n", "\x001",
		"1000000000", "0000000001", "9999999999", "2147483648", "4294967296", "4294967297", "-100000000", "+100000000",
		"9223372036854775807", "9223372036854775808", "18446744073709551616", "18446744073709551617", "-9223372036854775808", strings.Repeat("9", 5000), strings.Repeat("0", 5000),
	}
}

// P51
func TestAnyOtherLine(t *testing.T) {
	for _, before := range []talk{nil, familyTalk(), append(familyTalk(), talk{{"begin", "ok"}, {"insert 0 z z 0 9", "wait"}}...)} {
		lines := before.lines()
		wanted := lastAnswer(append(slices.Clone(lines), "end"), "now")
		for _, line := range noCommands() {
			if got := lastAnswer(lines, line); got != "what" {
				t.Errorf("%q behind %q is %q", line, lines, got)
			}
			if got := lastAnswer(append(slices.Clone(lines), line, "end"), "now"); got != wanted {
				t.Errorf("%q behind %q changes something: %q and not %q", line, lines, got, wanted)
			}
		}
	}
	if got, want := impl.Session(noCommands()), output(slices.Repeat([]string{"what"}, impl.SessionMax)); got != want {
		t.Errorf("%q", got)
	}
}

func TestNumbersOfCommands(t *testing.T) {
	before := familyTalk().lines()
	for _, number := range badNumbers() {
		for _, line := range []string{"see " + number + " 1", "see 0 " + number, "at " + number + " 1 5", "at 0 " + number + " 5", "at 0 1 " + number} {
			if got := lastAnswer(before, line); got != "what" {
				t.Errorf("%q is %q", line, got)
			}
		}
	}
	last := "p=x@10-18,p=y@18-20,p=x@20-30,q=+@0-100,"
	cases := talk{
		{"see 0 9", last}, {"see 0 99", last}, {"see 0 999", last}, {"see 0 1000", last}, {"see 0 99999999", last}, {"see 0 100000000", last}, {"see 0 999999999", last},
		{"see 0 1000000000", "what"}, {"see 0 9999999999", "what"},
		{"see 1 999999999", "b=q@99-100,c=p@15-25,"}, {"at 0 999999999 19", "p=y,q=+,"}, {"at 0 1000000000 19", "what"},
		{"see 2 0", "what"}, {"see 3 1", "what"}, {"see 10 1", "what"}, {"see 999999999 1", "what"}, {"at 2 1 5", "what"}, {"at 999999999 1 5", "what"},
		{"see a 1", "what"}, {"see p 1", "what"}, {"see 0 now", "what"}, {"at 0 now 1", "what"},
	}
	for _, c := range cases {
		if got := lastAnswer(before, c[0]); got != c[1] {
			t.Errorf("%q is %q and not %q", c[0], got, c[1])
		}
	}
}

// badLines are lines of six words that are no valid operation.
func badLines() []string {
	list := []string{
		"a b c d e f", "- - - - - -", "0 0 0 0 0 0", "see 0 1 2 3 4", "at 0 1 2 3 4", "begin 0 a x 0 20", "end 0 a x 0 20", "undo 0 a x 0 20", "now 0 a x 0 20", "now now now now now now",
		"insert 0 a x 0 20\n", "\ninsert 0 a x 0 20", "insert 0 a x 0 20\ninsert", "insert\n0 a x 0 20 30", "insert 0 a x 0 20;", "insert 0 a x 0 20\r",
	}
	for _, text := range badTexts() {
		if line, ended := strings.CutSuffix(text, "\n"); ended && sixWords.MatchString(line) {
			list = append(list, line)
		}
	}
	for _, number := range badNumbers() {
		list = append(list, "insert "+number+" a x 0 20", "merge 0 a x "+number+" 20", "delete 0 a - 0 "+number)
	}
	return list
}

// P51
func TestOperationsThatAreNone(t *testing.T) {
	started := talk{{"begin", "ok"}, {"insert 0 z z 0 9", "wait"}}
	full := append(slices.Clone(started), talk{{"insert 1 y z 0 9", "wait"}, {"update 0 z x 3 4", "wait"}, {"delete 1 y - 5 6", "wait"}}...)
	for _, before := range []talk{nil, familyTalk(), started, full, append(familyTalk(), started...)} {
		lines := before.lines()
		wanted := lastAnswer(append(slices.Clone(lines), "end"), "see 0 99")
		for _, line := range badLines() {
			if got := lastAnswer(lines, line); got != "form" {
				t.Errorf("%q behind %q is %q", line, lines, got)
			}
			if got := lastAnswer(lines, line+" "); got != "what" {
				t.Errorf("%q and a space behind %q is %q", line, lines, got)
			}
			if got := lastAnswer(append(slices.Clone(lines), line, "end"), "see 0 99"); got != wanted {
				t.Errorf("%q behind %q changes something: %q and not %q", line, lines, got, wanted)
			}
		}
	}
}

func TestOperationsAlone(t *testing.T) {
	talk{
		{"now", "0 0"}, {"delete 0 a - 0 100", "ok"}, {"now", "1 0"}, {"update 0 a x 0 100", "ok"}, {"now", "2 0"}, {"see 0 2", ""},
		{"insert 1 c a 0 1", "bad"}, {"now", "2 0"},
		{"merge 0 a x 0 100", "ok"}, {"now", "3 1"}, {"merge 0 a x 0 100", "ok"}, {"now", "4 1"}, {"insert 0 a x 99 100", "there"}, {"insert 0 123456789 +++++++++ 99 100", "ok"},
		{"insert 1 c a 0 1", "ok"}, {"update 1 c 123456789 0 1", "bad"}, {"update 1 c 123456789 1 2", "ok"}, {"merge 1 c 123456789 99 100", "ok"},
		{"delete 0 a - 0 1", "bad"}, {"delete 0 a - 1 2", "ok"}, {"delete 0 123456789 - 99 100", "bad"}, {"delete 0 123456789 - 98 99", "ok"},
		{"delete 1 c - 0 100", "ok"}, {"delete 0 a - 0 1", "ok"}, {"see 0 99", "123456789=+++++++++@99-100,a=x@2-100,"}, {"see 1 99", ""}, {"see 1 8", "c=a@0-1,c=123456789@99-100,"},
		{"now", "12 6"},
	}.check(t)
}

func TestWhatWaits(t *testing.T) {
	talk{
		{"begin", "ok"}, {"insert 0 a x 0 20", "wait"}, {"insert 0 b x 0 20", "wait"}, {"insert 0 c x 0 20", "wait"}, {"insert 0 d x 0 20", "wait"},
		{"insert 0 e x 0 20", "full"}, {"delete 0 a - 0 20", "full"}, {"insert 0 a - 0 20", "form"}, {"insert 2 a x 0 20", "form"}, {"insert 0 a x 0", "what"}, {"begin", "what"}, {"now", "0 0"}, {"see 0 9", ""},
		{"end", "ok"}, {"see 0 1", "a=x@0-20,b=x@0-20,c=x@0-20,d=x@0-20,"}, {"now", "1 4"}, {"end", "what"}, {"undo", "what"},
		{"insert 0 e x 0 20", "ok"},
		{"begin", "ok"}, {"delete 0 a - 0 20", "wait"}, {"insert 0 a y 0 20", "wait"}, {"update 0 a z 5 6", "wait"}, {"merge 0 e y 19 21", "wait"}, {"update 0 e y 0 9", "full"}, {"see 0 2", "a=x@0-20,b=x@0-20,c=x@0-20,d=x@0-20,e=x@0-20,"},
		{"end", "ok"}, {"see 0 3", "a=y@0-5,a=z@5-6,a=y@6-20,b=x@0-20,c=x@0-20,d=x@0-20,e=x@0-19,e=y@19-21,"}, {"now", "3 10"},
	}.check(t)
}

func TestBeginAndEnd(t *testing.T) {
	talk{{"end", "what"}, {"undo", "what"}, {"begin", "ok"}, {"undo", "ok"}, {"undo", "what"}, {"end", "what"}, {"now", "0 0"}}.check(t)
	talk{{"begin", "ok"}, {"end", "form"}, {"end", "what"}, {"undo", "what"}, {"now", "0 0"}, {"insert 0 a x 0 20", "ok"}, {"now", "1 1"}}.check(t)
	talk{{"begin", "ok"}, {"insert 0 a x 0 20", "wait"}, {"begin", "what"}, {"insert 0 b x 0 20", "wait"}, {"begin", "what"}, {"end", "ok"}, {"see 0 1", "a=x@0-20,b=x@0-20,"}, {"begin", "ok"}, {"end", "form"}, {"now", "1 2"}}.check(t)
	talk{{"begin", "ok"}, {"insert 0 a - 0 20", "form"}, {"end", "form"}, {"now", "0 0"}}.check(t)
	talk{{"begin", "ok"}, {"insert 1 c p 0 20", "wait"}, {"begin", "what"}, {"undo", "ok"}, {"begin", "ok"}, {"insert 0 p x 0 20", "wait"}, {"end", "ok"}, {"see 1 9", ""}, {"see 0 9", "p=x@0-20,"}}.check(t)
}

func TestATransactionThatIsUndone(t *testing.T) {
	asked := func(now string, parents string, children string, at string) talk {
		return talk{{"now", now}, {"see 0 99", parents}, {"see 1 99", children}, {"at 0 99 19", at}}
	}
	before := asked("3 7", "p=x@10-18,p=y@18-20,p=x@20-30,q=+@0-100,", "b=q@99-100,c=p@15-25,", "p=y,q=+,")
	var all talk
	all = append(all, familyTalk()...)
	all = append(all, before...)
	all = append(all, talk{{"begin", "ok"}, {"delete 1 c - 0 100", "wait"}, {"delete 0 p - 0 100", "wait"}, {"merge 0 q z 0 100", "wait"}, {"insert 0 z z 0 9", "wait"}, {"insert 0 y z 0 9", "full"}}...)
	all = append(all, before...)
	all = append(all, talk{{"undo", "ok"}}...)
	all = append(all, before...)
	all = append(all, talk{{"undo", "what"}, {"end", "what"}, {"begin", "ok"}, {"end", "form"}, {"begin", "ok"}, {"merge 0 z z 0 9", "wait"}, {"end", "ok"}}...)
	all = append(all, asked("4 8", "p=x@10-18,p=y@18-20,p=x@20-30,q=+@0-100,z=z@0-9,", "b=q@99-100,c=p@15-25,", "p=y,q=+,")...)
	all.check(t)
	for i := range impl.OpsMax + 1 {
		lines := append(familyTalk().lines(), "begin")
		for j := range i {
			lines = append(lines, fmt.Sprintf("insert 0 k%d x 0 9", j))
		}
		for _, line := range []string{"now", "see 0 99", "see 1 99"} {
			if got, want := lastAnswer(append(slices.Clone(lines), "undo"), line), lastAnswer(familyTalk().lines(), line); got != want {
				t.Errorf("%q behind %q undone is %q and not %q", line, lines, got, want)
			}
		}
	}
}

func TestATransactionThatFailsAsAWhole(t *testing.T) {
	last := talk{{"now", "3 7"}, {"see 0 99", "p=x@10-18,p=y@18-20,p=x@20-30,q=+@0-100,"}, {"see 1 99", "b=q@99-100,c=p@15-25,"}, {"end", "what"}, {"undo", "what"}, {"begin", "ok"}, {"end", "form"}}
	for _, c := range []struct {
		waits []string
		want  string
	}{
		{nil, "form"},
		{[]string{"insert 0 z z 0 9", "insert 0 p x 29 31"}, "there"},
		{[]string{"insert 0 p x 29 31", "insert 0 z z 0 9"}, "there"},
		{[]string{"insert 0 z z 0 9", "insert 0 z y 8 10"}, "there"},
		{[]string{"insert 0 z z 0 9", "insert 1 d y 0 9"}, "bad"},
		{[]string{"delete 0 p - 20 21", "insert 0 z z 0 9"}, "bad"},
		{[]string{"insert 1 d y 0 9", "insert 0 p x 29 31"}, "there"},
		{[]string{"delete 0 p - 0 100", "insert 0 p x 10 24"}, "bad"},
		{[]string{"insert 0 z z 0 9", "insert 0 y z 0 9", "insert 0 x z 0 9", "update 1 c z 20 21"}, "bad"},
	} {
		var all talk
		all = append(familyTalk(), [2]string{"begin", "ok"})
		for _, line := range c.waits {
			all = append(all, [2]string{line, "wait"})
		}
		all = append(all, [2]string{"end", c.want})
		append(all, last...).check(t)
	}
}

// manyRows makes so many rows of one parent, under as many stamps.
func manyRows(many int) talk {
	list := talk{{"insert 0 a x 0 100", "ok"}}
	for i := 1; i < many; i++ {
		list = append(list, [2]string{fmt.Sprintf("delete 0 a - %d %d", 4*i-1, 4*i), "ok"})
	}
	return list
}

func TestFullTables(t *testing.T) {
	for _, c := range []talk{
		{{"delete 0 a - 95 96", "full"}},
		{{"insert 0 b x 0 9", "full"}, {"insert 0 a x 0 1", "there"}, {"insert 0 a x 3 4", "ok"}, {"insert 0 b x 0 9", "ok"}},
		{{"merge 0 a y 1 2", "full"}, {"update 0 a y 1 2", "full"}, {"update 0 a y 0 3", "ok"}},
		{{"begin", "ok"}, {"insert 0 b x 0 9", "wait"}, {"delete 0 a - 0 100", "wait"}, {"end", "full"}, {"now", "24 47"}, {"at 0 99 0", "a=x,"}, {"end", "what"}},
		{{"begin", "ok"}, {"delete 0 a - 0 3", "wait"}, {"insert 0 b x 0 9", "wait"}, {"end", "ok"}},
		{{"begin", "ok"}, {"delete 0 a - 0 3", "wait"}, {"insert 0 b x 0 9", "wait"}, {"insert 0 c x 0 9", "wait"}, {"end", "full"}, {"now", "24 47"}, {"at 0 99 0", "a=x,"}, {"undo", "what"}},
	} {
		before := append(manyRows(impl.RowsMax), [2]string{"now", "24 47"})
		append(before, c...).check(t)
	}
}

func TestFullStores(t *testing.T) {
	update := func(text string, answer string) [2]string { return [2]string{"update 0 a " + text + " 0 100", answer} }
	all := append(manyRows(impl.RowsMax), talk{
		update("y", "ok"), update("z", "ok"), update("x", "ok"), {"now", "27 119"}, update("y", "full"),
		{"begin", "ok"}, update("y", "wait"), {"end", "full"}, {"now", "27 119"},
		{"insert 1 c a 0 1", "ok"}, {"now", "28 120"}, {"insert 0 a x 3 4", "ok"}, {"now", "29 121"}, {"delete 0 a - 1 2", "full"}, {"delete 0 a - 8 100", "ok"}, {"now", "30 121"},
		{"see 0 99", "a=x@0-7,"}, {"delete 0 z - 0 1", "full"}, {"insert 1 d z 0 1", "bad"}, {"insert 0 a x 0 1", "there"},
	}...)
	all.check(t)
}

func TestTheLastStamp(t *testing.T) {
	var all talk
	for range impl.StampMax {
		all = append(all, [2]string{"merge 0 a x 0 20", "ok"})
	}
	append(all, talk{
		{"now", "30 1"}, {"merge 0 a x 0 20", "full"}, {"insert 0 b x 0 20", "full"}, {"insert 0 a x 0 1", "there"}, {"insert 1 c q 0 1", "bad"}, {"insert 1 c a 0 21", "bad"}, {"insert 1 c a 0 20", "full"}, {"delete 0 a x 0 1", "form"},
		{"begin", "ok"}, {"delete 0 a - 0 20", "wait"}, {"end", "full"}, {"begin", "ok"}, {"end", "form"},
		{"see 0 0", ""}, {"see 0 1", "a=x@0-20,"}, {"see 0 30", "a=x@0-20,"}, {"see 0 31", "a=x@0-20,"}, {"now", "30 1"},
	}...).check(t)
}

func TestOperationsThatGoTogether(t *testing.T) {
	talk{
		{"insert 1 c p 5 15", "bad"},
		{"begin", "ok"}, {"insert 1 c p 5 15", "wait"}, {"insert 0 p x 5 15", "wait"}, {"end", "ok"}, {"now", "1 2"},
		{"delete 0 p - 5 15", "bad"},
		{"begin", "ok"}, {"delete 0 p - 5 15", "wait"}, {"insert 0 p y 0 20", "wait"}, {"end", "ok"}, {"now", "2 3"},
		{"update 1 c q 5 6", "bad"},
		{"begin", "ok"}, {"update 1 c q 5 6", "wait"}, {"merge 0 q x 5 6", "wait"}, {"end", "ok"}, {"now", "3 6"},
		{"insert 0 q x 5 7", "there"},
		{"begin", "ok"}, {"delete 0 q - 5 6", "wait"}, {"insert 0 q x 5 7", "wait"}, {"end", "ok"}, {"see 0 9", "p=y@0-20,q=x@5-7,"},
		{"begin", "ok"}, {"delete 0 p - 0 100", "wait"}, {"delete 0 q - 0 100", "wait"}, {"delete 1 c - 0 100", "wait"}, {"see 1 9", "c=q@5-6,c=p@6-15,"}, {"end", "ok"}, {"see 0 9", ""}, {"see 1 9", ""}, {"now", "5 7"},
	}.check(t)
}

// P52
func TestQuestionsInATransaction(t *testing.T) {
	talk{
		{"insert 0 p x 0 20", "ok"},
		{"begin", "ok"}, {"see 0 1", "p=x@0-20,"}, {"insert 1 c p 0 20", "wait"}, {"update 0 p y 5 6", "wait"},
		{"see 0 1", "p=x@0-20,"}, {"see 0 2", "p=x@0-20,"}, {"see 0 0", ""}, {"see 1 1", ""}, {"see 1 2", ""}, {"at 0 1 5", "p=x,"}, {"at 0 2 5", "p=x,"}, {"at 1 2 5", ""}, {"now", "1 1"}, {"see 2 0", "what"},
		{"end", "ok"},
		{"see 0 1", "p=x@0-20,"}, {"see 0 2", "p=x@0-5,p=y@5-6,p=x@6-20,"}, {"see 0 0", ""}, {"see 1 1", ""}, {"see 1 2", "c=p@0-20,"}, {"at 0 1 5", "p=x,"}, {"at 0 2 5", "p=y,"}, {"at 1 2 5", "c=p,"}, {"now", "2 5"},
	}.check(t)
}

// P52
func TestQuestionsAtEdges(t *testing.T) {
	for _, c := range []talk{
		{{"see 0 0", ""}, {"see 0 1", "p=x@10-30,"}, {"see 0 2", "p=x@10-30,q=+@0-100,"}, {"see 0 3", "p=x@10-18,p=y@18-20,p=x@20-30,q=+@0-100,"}, {"see 0 4", "p=x@10-18,p=y@18-20,p=x@20-30,q=+@0-100,"}},
		{{"see 1 0", ""}, {"see 1 1", "c=p@15-25,"}, {"see 1 2", "b=q@99-100,c=p@15-25,"}, {"see 1 3", "b=q@99-100,c=p@15-25,"}, {"see 1 4", "b=q@99-100,c=p@15-25,"}, {"see 2 3", "what"}},
		{{"at 0 0 10", ""}, {"at 0 1 10", "p=x,"}, {"at 0 1 9", ""}, {"at 0 1 29", "p=x,"}, {"at 0 1 30", ""}, {"at 0 3 17", "p=x,q=+,"}, {"at 0 3 18", "p=y,q=+,"}, {"at 0 2 18", "p=x,q=+,"}, {"at 0 4 18", "p=y,q=+,"}, {"at 0 999999999 20", "p=x,q=+,"}},
		{{"at 0 2 0", "q=+,"}, {"at 0 2 99", "q=+,"}, {"at 0 2 100", "what"}, {"at 0 2 101", "what"}, {"at 0 2 999", "what"}, {"at 0 2 999999999", "what"}, {"at 0 2 1000000000", "what"}, {"at 0 2 -1", "what"}, {"at 0 0 0", ""}, {"at 0 0 99", ""}, {"at 0 0 100", "what"}},
		{{"at 1 0 15", ""}, {"at 1 3 0", ""}, {"at 1 3 98", ""}, {"at 1 3 99", "b=q,"}, {"at 1 3 100", "what"}, {"at 1 1 99", ""}, {"at 1 1 15", "c=p,"}, {"at 1 9 25", ""}, {"at 2 1 15", "what"}, {"at 2 0 0", "what"}, {"at 1 9 24", "c=p,"}},
	} {
		append(familyTalk(), c...).check(t)
	}
	talk{{"see 0 0", ""}, {"see 1 0", ""}, {"see 0 9", ""}, {"at 0 0 0", ""}, {"at 1 0 99", ""}, {"at 1 9 99", ""}, {"at 0 0 100", "what"}, {"see 2 0", "what"}, {"at 2 0 0", "what"}, {"now", "0 0"}}.check(t)
}

// P51
func TestSessionMaxLines(t *testing.T) {
	for _, many := range []int{1, impl.SessionMax - 1, impl.SessionMax, impl.SessionMax + 1, 2 * impl.SessionMax, 1000} {
		for _, line := range []string{"now", "begin", "end", "merge 0 a x 0 20", "see 0 0", "", "what"} {
			lines := slices.Repeat([]string{line}, many)
			if got, want := impl.Session(lines), output(answersTo(lines)); got != want || strings.Count(got, "\n") != min(many, impl.SessionMax) {
				t.Errorf("%d times %q: %q", many, line, got)
			}
		}
	}
	lines := append(slices.Repeat([]string{"what"}, impl.SessionMax-2), "insert 0 a x 0 20", "see 0 9", "now", "see 0 9", "delete 0 a - 0 20")
	want := strings.Repeat("what\n", impl.SessionMax-2) + "ok\na=x@0-20,\n"
	if got := impl.Session(lines); got != want {
		t.Errorf("%q", got)
	}
	checkSession(t, lines)
	checkSession(t, append(append(example().lines(), familyTalk().lines()...), example().lines()...))
}

// someLine has few words, so that keys meet each other; now and then it is no
// command.
func someLine(source *rand.Rand) string {
	switch pick := source.Intn(40); {
	case pick < 3:
		return fmt.Sprintf("see %d %d", source.Intn(2), source.Intn(12))
	case pick < 6:
		return fmt.Sprintf("at %d %d %d", source.Intn(2), source.Intn(12), source.Intn(101))
	case pick < 8:
		return "now"
	case pick < 11:
		return "begin"
	case pick < 14:
		return "end"
	case pick < 15:
		return "undo"
	case pick < 16:
		lines := noCommands()
		return lines[source.Intn(len(lines))]
	case pick < 17:
		lines := badLines()
		return lines[source.Intn(len(lines))]
	}
	for {
		if list := someTx(source); valid(list) {
			return strings.TrimSuffix(lineOf(list[0]), "\n")
		}
	}
}

// P51, P52
func TestSomeSessions(t *testing.T) {
	source := rand.New(rand.NewSource(9))
	seen := map[string]int{}
	for i := range 150 {
		var lines []string
		for range source.Intn(impl.SessionMax + 10) {
			lines = append(lines, someLine(source))
		}
		for _, answer := range answersTo(lines) {
			seen[answer]++
		}
		if got, want := impl.Session(lines), output(answersTo(lines)); got != want {
			t.Errorf("%q: %q and not %q", lines, got, want)
		}
		if i%5 == 0 {
			checkPrefixes(t, lines)
			checkPast(t, lines)
		}
	}
	for _, answer := range []string{"ok", "form", "there", "bad", "full", "wait", "what", ""} {
		if seen[answer] < 5 {
			t.Error("few answers", answer, seen[answer])
		}
	}
}

func TestSessionsShareNoMemory(t *testing.T) {
	for _, list := range [][]string{nil, example().lines(), familyTalk().lines(), noCommands(), badLines()} {
		lines := slices.Grow(slices.Clone(list), 9)
		scribble(lines[len(lines):cap(lines)], "now")
		before := slices.Clone(lines[:cap(lines)])
		first := impl.Session(lines)
		if !slices.Equal(lines[:cap(lines)], before) {
			t.Errorf("an argument has changed: %q", lines)
		}
		impl.Session(example().lines())
		impl.Session(append(slices.Clone(list), "begin"))
		if again := impl.Session(lines); again != first {
			t.Errorf("a session keeps something: %q and %q", first, again)
		}
	}
}
