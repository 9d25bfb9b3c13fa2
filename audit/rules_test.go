package audit

import (
	"fmt"
	"slices"
	"strings"
	"testing"
)

// every: a command of every kind with an answer that is ok and one that is an error, and what it works on.
func every() []struct{ line, ok, fails, on string } {
	return []struct{ line, ok, fails, on string }{
		{"submit lock 2024-01-05", "ok 1", "error 71", "L"}, {"len", "ok 0", "error 5", "L"}, {"event 1", "ok x", "error 41", "L"}, {"trial", "ok 0", "error 5", "L"}, {"rollup A", "ok 0.00 0.00", "error 61", "L"}, {"daily A 2024-01-01 2024-01-02", "ok 0", "error 61", "L"},
		{"aged A 2024-01-01", "ok 0.00 0.00 0.00 0.00 0.00", "error 61", "L"}, {"open A 2024-01-01", "ok 0", "error 61", "L"}, {"accounts", "ok 0", "error 5", "L"}, {"left i1", "ok 0.00", "error 73", "L"}, {"query show count", "ok 1 1\n  0", "error 130 3", "L"}, {"export", "ok 0", "error 3", "L"},
		{"import\nlock 2024-01-05\nend", "ok 1", "error 71 0 0 0", "L"}, {"sheet trial", "ok 1\n |x", "error 1", "L"}, {"sheet tree", "ok 0", "error 1", "L"}, {"sheet income 2024-01-01 2024-01-02", "ok 0", "error 1", "L"}, {"sheet position 2024-01-01", "ok 0", "error 1", "L"}, {"sheet statement A 2024-01-01", "ok 0", "error 61", "L"},
		{"snapshot", "ok", "error 30", "L"}, {"trim 1", "ok 0", "error 1", "L"}, {"rebuild 3", "ok 1 0 0 0", "error 1", "L"}, {"status", "ok 0 0 0 0 0", "error 1", "L"},
		{"fuse 5", "ok", "error 1", "D"}, {"free", "ok 5", "error 1", "D"}, {"files", "ok 1\n  log 5 5", "error 1", "D"}, {"crash", "ok", "error 1", "D"}, {"crash 1 2", "ok", "error 1", "D"}, {"reopen", "ok 0", "error 40", "D"}, {"lose 0", "ok x", "error 31", "D"}, {"turn 0 0 1", "ok x", "error 31", "D"},
	}
}

// TestP20_1_Rule2: who answers: each command with and without a ledger and a disk.
func TestP20_1_Rule2(t *testing.T) {
	for _, x := range []struct {
		head         []string
		told         []string
		ledger, disk bool
	}{
		{[]string{"daybook -1 64 2"}, []string{"1 error 1"}, false, false},
		{[]string{"daybook 1048577 64 2"}, []string{"1 error 1"}, false, false},
		{[]string{"daybook 9999999999 64 2", "reopen"}, []string{"1 error 1", "2 closed"}, false, false},
		{[]string{"daybook 1048576 64 2"}, []string{"1 ok 0"}, true, true},
		{[]string{"daybook 0 64 2"}, []string{"1 error 30"}, false, true},
		{[]string{"daybook 0 64 2", "reopen"}, []string{"1 error 30", "2 ok 0"}, true, true},
		{[]string{"daybook 0 64 2"}, []string{"1 ok 0"}, true, true},
		{[]string{"daybook 100 63 2"}, []string{"1 error 1"}, false, true},
		{[]string{"daybook 100 64 2", "crash"}, []string{"1 ok 0", "2 ok"}, false, true},
		{[]string{"daybook 100 64 2", "crash"}, []string{"1 ok 0", "2 error 7"}, true, true},
		{[]string{"daybook 100 64 2", "lose 0"}, []string{"1 ok 0", "2 ok x"}, false, true},
		{[]string{"daybook 100 64 2", "lose 0"}, []string{"1 ok 0", "2 error 31"}, true, true},
		{[]string{"daybook 100 64 2", "turn 0 0 1"}, []string{"1 ok 0", "2 ok x"}, false, true},
		{[]string{"daybook 100 64 2", "turn 0 0 1"}, []string{"1 ok 0", "2 error 31"}, true, true},
		{[]string{"daybook 100 64 2", "reopen"}, []string{"1 ok 0", "2 error 34"}, false, true},
		{[]string{"daybook 100 64 2", "reopen"}, []string{"1 ok 0", "2 ok 0"}, true, true},
		{[]string{"daybook 100 64 2", "crash", "reopen"}, []string{"1 ok 0", "2 ok", "3 ok 0"}, true, true},
		{[]string{"daybook 100 64 2", "crash", "reopen", "reopen"}, []string{"1 ok 0", "2 ok", "3 error 40", "4 ok 0"}, true, true},
		{[]string{"daybook 100 64 2", "fuse 0", "free", "files"}, []string{"1 ok 0", "2 ok", "3 ok 1", "4 ok 0"}, true, true},
	} {
		n := len(x.head) + 1
		for _, c := range every() {
			there := map[string]bool{"L": x.ledger, "D": x.disk}[c.on]
			in := append(slices.Clone(x.head), strings.Split(c.line, "\n")...)
			told := func(first string) []string {
				return append(slices.Clone(x.told), strings.Split(fmt.Sprintf("%d %s", n, first), "\n")...)
			}
			tells(t, in, told("closed"), map[bool]int{true: 2}[there], map[bool]int{true: n}[there])
			tells(t, in, told(c.fails), map[bool]int{false: 2}[there], map[bool]int{false: n}[there])
			ok := 0
			switch {
			case !there:
				ok = 2
			case c.line == "event 1":
				ok = 5
			case c.line == "left i1":
				ok = 9
			}
			tells(t, in, told(c.ok), ok, map[bool]int{true: n}[ok > 0])
		}
	}
}

// TestP20_1_Rule2First: the first line.
func TestP20_1_Rule2First(t *testing.T) {
	for _, x := range []struct {
		head, first string
		rule        int
	}{
		{"daybook 100 64 2", "closed", 2}, {"daybook 100 64 2", "ok 0", 0}, {"daybook 100 64 2", "error 1", 0}, {"daybook 100 64 2", "error 30", 0}, {"daybook 100 64 2", "error 34", 0}, {"daybook 100 64 7", "ok 0", 0}, {"daybook 100 1 2", "ok 0", 0},
		{"daybook -1 64 2", "closed", 2}, {"daybook -1 64 2", "ok 0", 2}, {"daybook -1 64 2", "ok 1", 2}, {"daybook -1 64 2", "error 1", 0}, {"daybook -1 64 2", "error 2", 2}, {"daybook -1 64 2", "error 10", 2}, {"daybook -1 64 2", "error 30", 2},
		{"daybook 1048577 64 2", "ok 0", 2}, {"daybook 1048577 64 2", "error 1", 0}, {"daybook 1048576 64 2", "ok 0", 0}, {"daybook 1048576 64 2", "error 5", 0}, {"daybook 0 64 2", "ok 0", 0}, {"daybook 0 64 2", "error 30", 0}, {"daybook -9999999999 64 2", "ok 0", 2}, {"daybook -9999999999 64 2", "error 1", 0},
		{"daybook -1 64 2", "error 1 1", 1}, {"daybook -1 64 2", "ok", 1},
	} {
		tells(t, []string{x.head}, []string{"1 " + x.first}, x.rule, min(x.rule, 1))
	}
}

// TestP20_1_Rule3: numbers.
func TestP20_1_Rule3(t *testing.T) {
	head := []string{"daybook 100000 4096 2", "submit open 2024-01-01 A asset"}
	for told, rule := range map[string]int{"ok 1": 0, "ok 0": 3, "ok 2": 3, "ok -1": 3, "ok 9999999999": 3, "error 50": 0, "error 34": 0} {
		tells(t, head, []string{"1 ok 0", "2 " + told}, rule, map[bool]int{true: 2}[rule > 0])
	}
	for told, want := range map[string]int{"ok 1": 1, "error 50": 0} {
		for n := -2; n < 4; n++ {
			rule := map[bool]int{true: 3}[n != want]
			tells(t, append(slices.Clone(head), "len"), []string{"1 ok 0", "2 " + told, fmt.Sprintf("3 ok %d", n)}, rule, rule)
		}
		tells(t, append(slices.Clone(head), "len"), []string{"1 ok 0", "2 " + told, "3 error 7"}, 0, 0)
	}
	// Texts that are no event's, by the digits too.
	for _, line := range []string{"submit", "submit ", "submit x", "submit open 2024-01-01 a asset", "submit lock 2024-02-30", "submit post 2024-01-01 x A 1.001, B -1", "submit open 2024-01-01 A asset x"} {
		tells(t, []string{"daybook 100000 4096 2", line}, []string{"1 ok 0", "2 ok 1"}, 3, 2)
		tells(t, []string{"daybook 100000 4096 2", line}, []string{"1 ok 0", "2 error 50"}, 0, 0)
	}
	tells(t, []string{"daybook 100000 4096 3", "submit post 2024-01-01 x A 1.001, B -1"}, []string{"1 ok 0", "2 ok 1"}, 0, 0)
	tells(t, []string{"daybook 100000 4096 7", "submit lock 2024-01-01"}, []string{"1 ok 0", "2 ok 1"}, 3, 2)
	// Whether the books would take it plays no part.
	tells(t, []string{"daybook 100000 4096 2", "submit lock 2024-01-01", "submit lock 2024-01-01", "submit close 2024-01-01 X", "submit post 2024-01-01 x A 1, B 5"}, []string{"1 ok 0", "2 ok 1", "3 ok 2", "4 ok 3", "5 ok 4"}, 0, 0)
}

// TestP20_1_Rule3Import: of an import how many were taken.
func TestP20_1_Rule3Import(t *testing.T) {
	three := []string{"daybook 100000 4096 2", "import", "lock 2024-01-01", "lock 2024-01-02", "lock 2024-01-03", "end", "len"}
	fault := []string{"daybook 100000 4096 2", "import", "lock 2024-01-01", "x", "end", "len"}
	none := []string{"daybook 100000 4096 2", "import", "; x", "end", "len"}
	for _, x := range []struct {
		in    []string
		told  string
		rule  int
		taken int
	}{
		{three, "ok 3", 0, 3}, {three, "ok 2", 3, 0}, {three, "ok 0", 3, 0}, {three, "ok 4", 3, 0}, {three, "ok -1", 3, 0}, {three, "ok 9999999999", 3, 0},
		{three, "error 71 0 0 0", 0, 0}, {three, "error 71 1 0 0", 0, 1}, {three, "error 71 2 5 5", 0, 2}, {three, "error 71 3 0 0", 0, 3}, {three, "error 71 4 0 0", 3, 0}, {three, "error 71 -1 0 0", 3, 0}, {three, "error 34 4 0 0", 3, 0}, {three, "error 160 0 1 0", 0, 0},
		{fault, "ok 0", 3, 0}, {fault, "ok 1", 3, 0}, {fault, "error 160 0 2 0", 0, 0}, {fault, "error 160 1 2 0", 3, 0}, {fault, "error 7 -1 2 0", 3, 0}, {fault, "error 34 0 0 0", 0, 0},
		{none, "ok 0", 0, 0}, {none, "ok 1", 3, 0}, {none, "error 7 0 0 0", 0, 0}, {none, "error 7 1 0 0", 3, 0},
	} {
		for n := range 5 {
			rule, line := x.rule, 2
			if rule == 0 && n != x.taken {
				rule, line = 3, 3
			}
			if rule == 0 {
				line = 0
			}
			tells(t, x.in, []string{"1 ok 0", "2 " + x.told, fmt.Sprintf("%d ok %d", len(x.in), n)}, rule, line)
		}
	}
	tells(t, []string{"daybook 100000 4096 7", "import", "end"}, []string{"1 ok 0", "2 ok 0"}, 3, 2)
	tells(t, []string{"daybook 100000 4096 2", "crash", "import", "lock 2024-01-01", "end", "reopen"}, []string{"1 ok 0", "2 ok", "3 closed", "6 ok 0"}, 0, 0)
}

// TestP20_1_Rule4: what an opening tells.
func TestP20_1_Rule4(t *testing.T) {
	for n := -1; n < 3; n++ {
		rule := map[bool]int{true: 4}[n != 0]
		tells(t, []string{"daybook 100 64 2"}, []string{fmt.Sprintf("1 ok %d", n)}, rule, min(rule, 1))
	}
	two := []string{"daybook 100000 4096 2", "submit lock 2024-01-01", "submit lock 2024-01-02"}
	told := []string{"1 ok 0", "2 ok 1", "3 ok 2"}
	lock, post := "submit lock 2024-01-03", "submit post 2024-01-04 x A 1, B -1"
	journal := []string{"import", "lock 2024-01-03", post[7:], "end"}
	for _, x := range []struct {
		what    string
		in      []string
		told    []string
		events  int
		pending string // the event that may be one more
	}{
		{"no crash", nil, nil, 2, ""},
		{"a crash", []string{"crash"}, []string{"ok"}, 2, ""},
		{"a submit that is cut off", []string{post}, []string{"error 34"}, 2, post[7:]},
		{"and a crash", []string{post, "crash"}, []string{"error 34", "ok"}, 2, post[7:]},
		{"two: the first one counts", []string{post, lock}, []string{"error 34", "error 34"}, 2, post[7:]},
		{"another command ahead of it", []string{"trial", post}, []string{"error 34", "error 34"}, 2, ""},
		{"len ahead of it", []string{"len", post}, []string{"error 34", "error 34"}, 2, ""},
		{"status ahead of it", []string{"status", post}, []string{"error 34", "error 34"}, 2, ""},
		{"snapshot ahead of it", []string{"snapshot", post}, []string{"error 34", "error 34"}, 2, ""},
		{"the disk's commands ahead of it", []string{"fuse 1", "free", "files", "lose 0", "turn 0 0 1", "crash", post}, []string{"error 34", "error 34", "error 34", "error 34", "error 34", "error 34", "error 34"}, 2, post[7:]},
		{"a text that is no event's", []string{"submit x", post}, []string{"error 34", "error 34"}, 2, ""},
		{"another error", []string{post}, []string{"error 33"}, 2, ""},
		{"an import, nothing taken", journal, []string{"error 34 0 0 0"}, 2, "lock 2024-01-03"},
		{"an import, one taken", journal, []string{"error 34 1 0 0"}, 3, post[7:]},
		{"an import, all taken", journal, []string{"error 34 2 0 0"}, 4, ""},
		{"an import of another error", journal, []string{"error 71 1 0 0"}, 3, ""},
		{"a journal with a fault", []string{"import", "lock 2024-01-03", "x", "end"}, []string{"error 34 0 0 0"}, 2, ""},
		{"an import of a ledger that is down takes, but cuts nothing off", append([]string{post}, journal...), []string{"error 34", "error 34 1 0 0"}, 3, post[7:]},
		{"a reopen that fails leaves it", []string{post, "reopen", "crash", "reopen"}, []string{"error 34", "error 34", "ok", "error 34"}, 2, post[7:]},
		{"a reopen that goes well does not", []string{post, "reopen"}, []string{"error 34", "ok 2"}, 2, ""},
		{"nor one that tells of it", []string{post, "reopen"}, []string{"error 34", "ok 3"}, 3, ""},
		{"a closed submit", []string{"crash", post}, []string{"ok", "closed"}, 2, ""},
		{"a lost checkpoint", []string{post, "crash", "lose 0", "turn 0 0 1"}, []string{"error 34", "ok", "ok x", "ok y"}, 2, post[7:]},
	} {
		in, trace := slices.Clone(two), slices.Clone(told)
		n := 0
		for i, s := range x.in {
			in = append(in, s)
			if i > 0 && slices.Contains(x.in[:i], "import") && slices.Contains(x.in[i:], "end") {
				continue
			}
			trace = append(trace, fmt.Sprintf("%d %s", len(in), x.told[n]))
			n++
		}
		if n != len(x.told) {
			t.Fatal(x.what)
		}
		in = append(in, "reopen", fmt.Sprintf("event %d", x.events+1), "len", "crash", "reopen")
		for k := -1; k < x.events+4; k++ {
			rest := []string{fmt.Sprintf("%d ok %d", len(in)-4, k), fmt.Sprintf("%d error 41", len(in)-3), fmt.Sprintf("%d ok %d", len(in)-2, k), fmt.Sprintf("%d ok", len(in)-1), fmt.Sprintf("%d ok %d", len(in), k)}
			rule, line := 4, len(trace)+1
			switch {
			case k == x.events:
				rule, line = 0, 0
			case k == x.events+1 && x.pending != "":
				rule, line = 0, 0
				tells(t, in, append(slices.Clone(trace), rest...), 5, len(trace)+2)
				s := x.pending
				s = strings.Replace(strings.Replace(s, "A 1,", "A 1.00,", 1), "B -1", "B -1.00", 1)
				rest[1] = fmt.Sprintf("%d ok %s", len(in)-3, s)
			}
			tells(t, in, append(slices.Clone(trace), rest...), rule, line)
		}
	}
}

// TestP20_1_Rule5: events.
func TestP20_1_Rule5(t *testing.T) {
	in := []string{"daybook 100000 4096 2", "submit  open\t2024-01-01  A asset", "submit post 2024-01-02 x \"\" A 1, B -1.5 #t", ""}
	in[1] = "submit  open  2024-01-01  A asset"
	lines := []string{"", "open 2024-01-01 A asset", "post 2024-01-02 x A 1.00, B -1.50 #t"}
	for n := -1; n < 5; n++ {
		in[3] = fmt.Sprintf("event %d", n)
		there := n == 1 || n == 2
		for _, told := range []string{"ok", "ok ", "ok " + lines[1], "ok " + lines[2], "ok  " + lines[1], "ok " + lines[1] + " ", "ok " + in[1][7:], "ok " + strings.ToUpper(lines[1]), "error 41", "error 40", "error 34", "error 1"} {
			rule := 0
			switch {
			case told == "error 41" && there, told[:2] == "ok" && (!there || told != "ok "+lines[n]):
				rule = 5
			}
			tells(t, in, []string{"1 ok 0", "2 ok 1", "3 ok 2", "4 " + told}, rule, map[bool]int{true: 4}[rule > 0])
		}
	}
	for _, n := range []string{"9999999999", "-9999999999"} {
		in[3] = "event " + n
		tells(t, in, []string{"1 ok 0", "2 ok 1", "3 ok 2", "4 error 41"}, 0, 0)
		tells(t, in, []string{"1 ok 0", "2 ok 1", "3 ok 2", "4 ok " + lines[1]}, 5, 4)
	}
}

// TestP20_1_Rule6: a key is used once, whatever else the event is.
func TestP20_1_Rule6(t *testing.T) {
	keyed := []string{"post 2024-01-01 k A 1, B -1", "void 2024-01-01 k x", "invoice 2024-01-01 k A B due 2024-01-01 1", "pay 2024-01-01 k A B 1", "allot 2024-01-01 k x y 1"}
	for _, a := range keyed {
		for _, b := range keyed {
			tells(t, []string{"daybook 100000 4096 2", "submit " + a, "submit lock 2024-01-01", "submit " + b}, []string{"1 ok 0", "2 ok 1", "3 ok 2", "4 ok 3"}, 6, 4)
			tells(t, []string{"daybook 100000 4096 2", "submit " + a, "submit lock 2024-01-01", "submit " + b}, []string{"1 ok 0", "2 ok 1", "3 ok 2", "4 error 70"}, 0, 0)
			tells(t, []string{"daybook 100000 4096 2", "submit " + a, "submit lock 2024-01-01", "submit " + b}, []string{"1 ok 0", "2 error 70", "3 ok 1", "4 ok 2"}, 0, 0)
			tells(t, []string{"daybook 100000 4096 2", "submit " + a, "submit lock 2024-01-01", "submit " + strings.Replace(b, " k ", " k1 ", 1)}, []string{"1 ok 0", "2 ok 1", "3 ok 2", "4 ok 3"}, 0, 0)
			// By an import: with one ahead of it, and within it; what it does not take plays no part.
			in := []string{"daybook 100000 4096 2", "submit " + a, "import", "lock 2024-01-01", b, "end"}
			tells(t, in, []string{"1 ok 0", "2 ok 1", "3 ok 2"}, 6, 3)
			tells(t, in, []string{"1 ok 0", "2 ok 1", "3 error 7 2 0 0"}, 6, 3)
			tells(t, in, []string{"1 ok 0", "2 ok 1", "3 error 70 1 0 0"}, 0, 0)
			tells(t, []string{"daybook 100000 4096 2", "import", a, "lock 2024-01-01", b, "end"}, []string{"1 ok 0", "2 ok 3"}, 6, 2)
			tells(t, []string{"daybook 100000 4096 2", "import", a, "lock 2024-01-01", b, "end"}, []string{"1 ok 0", "2 error 70 2 0 0"}, 0, 0)
			// By an opening.
			in = []string{"daybook 100000 4096 2", "submit " + a, "submit " + b, "reopen"}
			tells(t, in, []string{"1 ok 0", "2 ok 1", "3 error 34", "4 ok 2"}, 6, 4)
			tells(t, in, []string{"1 ok 0", "2 ok 1", "3 error 34", "4 ok 1"}, 0, 0)
			tells(t, in, []string{"1 ok 0", "2 error 34", "3 error 34", "4 ok 1"}, 0, 0)
		}
	}
	for _, s := range []string{"lock 2024-01-01", "open 2024-01-01 A asset", "close 2024-01-01 A"} {
		tells(t, []string{"daybook 100000 4096 2", "submit " + s, "submit " + s, "import", s, s, "end", "submit " + s, "reopen"}, []string{"1 ok 0", "2 ok 1", "3 ok 2", "4 ok 2", "8 error 34", "9 ok 5"}, 0, 0)
	}
	// Ref and Ref2 are no keys of the event's own.
	tells(t, []string{"daybook 100000 4096 2", "submit allot 2024-01-01 a x y 1", "submit post 2024-01-01 x A 1, B -1", "submit pay 2024-01-01 y A B 1", "submit void 2024-01-01 v v"}, []string{"1 ok 0", "2 ok 1", "3 ok 2", "4 ok 3", "5 ok 4"}, 0, 0)
}

// questions: of each question two answers of its form that may be given behind one lock, but not both.
func questions() map[string][2]string {
	return map[string][2]string{
		"len": {"ok 1", "error 7"}, "event 1": {"ok lock 2024-01-01", "error 7"}, "event 9": {"error 41", "error 7"}, "trial": {"ok 0", "error 7"}, "rollup A": {"ok 0.00 0.00", "error 61"}, "daily A 2024-01-01 2024-01-02": {"ok 0", "error 61"}, "aged A 2024-01-01": {"ok 0.00 0.00 0.00 0.00 0.00", "error 61"}, "open A 2024-01-01": {"ok 0", "error 61"}, "accounts": {"ok 0", "error 7"}, "left i1": {"error 73", "error 7"},
		"query show count": {"ok 1 1\n  0", "ok 1 1\n  1"}, "query": {"error 130 0", "error 130 1"}, "query x": {"ok 0 0", "ok 0 1"}, "export": {"ok 1\n |x", "ok 1\n |x "}, "sheet trial": {"ok 1\n |x", "ok 2\n |x\n |y"}, "sheet tree": {"ok 0", "ok 1\n |"}, "sheet income 2024-01-01 2024-01-02": {"ok 0", "error 1"}, "sheet position 2024-01-01": {"ok 2\n |x\n |y", "ok 2\n |y\n |x"}, "sheet statement A 2024-01-01": {"error 61", "error 1"},
	}
}

// numbered: answers behind their lines' numbers, rows as they are.
func numbered(numbers []int, told ...string) []string {
	var l []string
	for i, s := range told {
		l = append(l, strings.Split(fmt.Sprintf("%d %s", numbers[i], s), "\n")...)
	}
	return l
}

// TestP20_1_Rule11: a question asked again.
func TestP20_1_Rule11(t *testing.T) {
	head := []string{"daybook 100000 4096 2", "submit lock 2024-01-01"}
	for q, a := range questions() {
		for _, between := range []struct {
			lines   string
			told    string
			changes bool
			events  int // that come
		}{
			{"", "", false, 0},
			{"submit lock 2024-01-02", "error 71", false, 0}, {"submit lock 2024-01-02", "error 30", false, 0},
			{"import\nlock 2024-01-02\nend", "error 71 0 0 0", false, 0}, {"import\nend", "ok 0", false, 0},
			{"snapshot", "ok", false, 0}, {"trim 0", "ok 5", false, 0}, {"rebuild 3", "ok 0 1 1 1", false, 0}, {"rebuild 3", "ok 1 0 0 1", false, 0}, {"rebuild 3", "error 7", false, 0}, {"status", "ok 0 0 0 1 1", false, 0}, {"fuse 1", "ok", false, 0}, {"fuse 1", "error 34", false, 0}, {"free", "ok 5", false, 0}, {"free", "error 34", false, 0}, {"files", "ok 0", false, 0}, {"crash", "error 34", false, 0}, {"lose 0", "error 34", false, 0}, {"turn 0 0 0", "error 34", false, 0}, {"rollup B", "ok 0.00 0.00", false, 0}, {"query show", "error 7 0", false, 0},
			{"submit close 2024-01-01 Z", "ok 2", true, 1}, {"import\nclose 2024-01-02 Z\nend", "ok 1", true, 1}, {"import\nclose 2024-01-02 Z\nend", "error 5 1 0 0", true, 1}, {"reopen", "ok 1", true, 0},
		} {
			in := append(slices.Clone(head), q)
			numbers := []int{1, 2, 3}
			told := []string{"ok 0", "ok 1", a[0]}
			if between.lines != "" {
				in = append(in, strings.Split(between.lines, "\n")...)
				numbers, told = append(numbers, 4), append(told, between.told)
			}
			in = append(in, q)
			numbers = append(numbers, len(in))
			first := a[0]
			if q == "len" {
				first = fmt.Sprintf("ok %d", 1+between.events)
			}
			tells(t, in, numbered(numbers, append(told, first)...), 0, 0)
			rule, line := 11, 1+len(numbered(numbers, told...))
			if between.changes {
				rule, line = 0, 0
			}
			tells(t, in, numbered(numbers, append(told, a[1])...), rule, line)
			// An error 34 is no answer otherwise, and closed breaks another rule.
			down := "error 34"
			if strings.HasPrefix(q, "query") {
				down = "error 34 0"
			}
			tells(t, in, numbered(numbers, append(told, down)...), 0, 0)
			tells(t, in, numbered(numbers, append(told, "closed")...), 2, 1+len(numbered(numbers, told...)))
		}
	}
}

// TestP20_1_Rule11Down: the first error 34 is a change, and counts as answered since it.
func TestP20_1_Rule11Down(t *testing.T) {
	in := []string{"daybook 100000 4096 2", "trial", "rollup A", "len", "trial", "len", "len", "rollup A", "trial"}
	numbers := []int{1, 2, 3, 4, 5, 6, 7, 8, 9}
	tells(t, in, numbered(numbers, "ok 0", "ok 0", "ok 0.00 0.00", "ok 0", "error 34", "ok 0", "ok 0", "error 34", "error 34"), 0, 0)
	tells(t, in, numbered(numbers, "ok 0", "ok 0", "ok 0.00 0.00", "ok 0", "error 34", "ok 0", "ok 0", "error 34", "ok 0"), 11, 9)          // it was asked since
	tells(t, in, numbered(numbers, "ok 0", "ok 0", "ok 0.00 0.00", "ok 0", "error 34", "ok 0", "ok 0", "ok 0.00 0.00", "error 34"), 13, 8)  // it was not
	tells(t, in, numbered(numbers, "ok 0", "ok 0", "ok 0.00 0.00", "ok 0", "error 34", "error 7", "error 7", "error 34", "error 34"), 0, 0) // len may be answered otherwise behind it
	tells(t, in, numbered(numbers, "ok 0", "ok 0", "ok 0.00 0.00", "ok 0", "error 34", "ok 0", "error 7", "error 34", "error 34"), 11, 7)   // but not twice
	tells(t, in, numbered(numbers, "ok 0", "ok 0", "ok 0.00 0.00", "ok 0", "error 34", "error 34", "ok 0", "error 34", "error 34"), 11, 7)  // an error 34 is an answer, too
	tells(t, in, numbered(numbers, "ok 0", "ok 0", "ok 0.00 0.00", "error 34", "error 34", "ok 0", "ok 0", "error 34", "error 34"), 11, 6)  // the very first one
	tells(t, in, numbered(numbers, "ok 0", "error 34", "error 34", "ok 0", "error 34", "error 34", "ok 0", "error 34", "error 34"), 11, 7)
	// By each other command of the ledger.
	for _, c := range every() {
		if c.on != "L" || c.line == "len" {
			continue
		}
		down := "error 34"
		switch {
		case strings.HasPrefix(c.line, "query"):
			down += " 0"
		case strings.HasPrefix(c.line, "import"):
			down += " 0 0 0"
		}
		in := append(append([]string{"daybook 100000 4096 2", "len"}, strings.Split(c.line, "\n")...), "len")
		numbers := []int{1, 2, 3, len(in)}
		tells(t, in, numbered(numbers, "ok 0", "error 7", down, "ok 0"), 0, 0)
		tells(t, in, numbered(numbers, "ok 0", "error 7", down, "error 8"), 0, 0)
		if strings.HasPrefix(c.line, "import") {
			// Of a ledger that is down what it takes is a change.
			in := append(slices.Concat([]string{"daybook 100000 4096 2", "trial", "len"}, strings.Split(c.line, "\n")), "len")
			numbers := []int{1, 2, 3, 4, len(in)}
			tells(t, in, numbered(numbers, "ok 0", "error 34", "ok 0", "error 34 0 0 0", "error 7"), 11, 5)
			tells(t, in, numbered(numbers, "ok 0", "error 34", "ok 0", "error 34 1 0 0", "error 7"), 0, 0)
			tells(t, in, numbered(numbers, "ok 0", "error 34", "ok 0", "error 34 1 0 0", "ok 1"), 0, 0)
		}
	}
}

// TestP20_1_Rule11Questions: a question is its word, its other words and its text.
func TestP20_1_Rule11Questions(t *testing.T) {
	for _, x := range [][2]string{{"query x", "query  x"}, {"query x", "query x "}, {"query", "query x"}, {"sheet position 2024-01-01", "sheet position 2024-01-02"}, {"sheet income 2024-01-01 2024-01-02", "sheet income 2024-01-02 2024-01-01"}, {"sheet trial", "sheet tree"}, {"sheet trial", "export"}, {"sheet statement A 2024-01-01", "sheet statement B 2024-01-01"}} {
		told := map[bool][2]string{true: {"ok 0 1", "ok 0 2"}, false: {"ok 1\n |x", "ok 1\n |y"}}[x[0][0] == 'q']
		tells(t, []string{"daybook 1 64 2", x[0], x[1]}, numbered([]int{1, 2, 3}, "ok 0", told[0], told[1]), 0, 0)
		tells(t, []string{"daybook 1 64 2", x[0], "# x", x[0]}, numbered([]int{1, 2, 4}, "ok 0", told[0], told[0]), 0, 0)
		tells(t, []string{"daybook 1 64 2", x[0], "# x", x[0]}, numbered([]int{1, 2, 4}, "ok 0", told[0], told[1]), 11, 2+len(strings.Split(told[0], "\n")))
	}
	// Those that may be answered otherwise each time.
	for _, x := range [][3]string{{"status", "ok 0 0 0 0 0", "ok 0 0 0 0 1"}, {"free", "ok 1", "ok 2"}, {"files", "ok 0", "ok 1\n  x 1 1"}, {"trim 0", "ok 1", "ok 2"}, {"snapshot", "ok", "error 30"}, {"lose 0", "error 31", "error 5"}, {"fuse 1", "ok", "error 1"}, {"submit x", "error 50", "error 1"}} {
		tells(t, []string{"daybook 1 64 2", x[0], x[0]}, numbered([]int{1, 2, 3}, "ok 0", x[1], x[2]), 0, 0)
	}
}

// TestP20_1_Rule12: rebuilds and status.
func TestP20_1_Rule12(t *testing.T) {
	three := []string{"daybook 100000 4096 2", "submit lock 2024-01-01", "submit lock 2024-01-02", "submit lock 2024-01-03"}
	head := []string{"ok 0", "ok 1", "ok 2", "ok 3"}
	for _, x := range []struct {
		lines []string
		told  []string
		rule  int // by the last of them
	}{
		{[]string{"rebuild 5"}, []string{"ok 0 1 3 3"}, 0}, {[]string{"rebuild 5"}, []string{"ok 0 1 1 3"}, 0}, {[]string{"rebuild 5"}, []string{"ok 1 0 0 3"}, 0}, {[]string{"rebuild 2"}, []string{"ok 0 1 2 3"}, 0},
		{[]string{"rebuild 2"}, []string{"ok 0 1 3 3"}, 12}, {[]string{"rebuild 5"}, []string{"ok 0 1 4 3"}, 12}, {[]string{"rebuild 5"}, []string{"ok 0 1 0 3"}, 12}, {[]string{"rebuild 5"}, []string{"ok 0 1 -1 3"}, 12}, {[]string{"rebuild 5"}, []string{"ok 1 1 3 3"}, 12}, {[]string{"rebuild 5"}, []string{"ok -1 1 3 3"}, 12}, {[]string{"rebuild 5"}, []string{"ok 0 0 0 3"}, 12}, {[]string{"rebuild 5"}, []string{"ok 2 0 0 3"}, 12}, {[]string{"rebuild 5"}, []string{"ok 1 0 1 3"}, 12}, {[]string{"rebuild 5"}, []string{"ok 1 0 3 3"}, 12}, {[]string{"rebuild 5"}, []string{"ok 0 0 3 3"}, 12},
		{[]string{"rebuild 5"}, []string{"ok 0 1 3 4"}, 12}, {[]string{"rebuild 5"}, []string{"ok 0 1 2 2"}, 12}, {[]string{"rebuild 5"}, []string{"ok 1 0 0 2"}, 12}, {[]string{"rebuild 5"}, []string{"ok 1 0 0 4"}, 12}, {[]string{"rebuild 5"}, []string{"ok 1 0 0 0"}, 12},
		{[]string{"rebuild 0"}, []string{"ok 0 1 1 3"}, 12}, {[]string{"rebuild -5"}, []string{"ok 0 1 1 3"}, 12}, {[]string{"rebuild 0"}, []string{"ok 1 0 0 3"}, 0}, {[]string{"rebuild 9999999999"}, []string{"ok 0 1 3 3"}, 0}, {[]string{"rebuild 9999999999"}, []string{"ok 0 1 9999999999 3"}, 12}, {[]string{"rebuild -9999999999"}, []string{"ok 1 0 0 3"}, 0},
		// One behind the other.
		{[]string{"rebuild 5", "rebuild 5"}, []string{"ok 0 1 3 3", "ok 1 0 0 3"}, 0}, {[]string{"rebuild 5", "rebuild 5"}, []string{"ok 0 1 3 3", "ok 0 1 3 3"}, 12}, {[]string{"rebuild 5", "rebuild 5"}, []string{"ok 0 1 2 3", "ok 0 1 1 3"}, 12}, {[]string{"rebuild 1", "rebuild 1"}, []string{"ok 0 1 1 3", "ok 0 1 2 3"}, 0}, {[]string{"rebuild 1", "rebuild 1"}, []string{"ok 0 1 1 3", "ok 0 1 3 3"}, 12}, {[]string{"rebuild 1", "rebuild 2"}, []string{"ok 0 1 1 3", "ok 0 1 3 3"}, 0},
		{[]string{"rebuild 5", "rebuild 5"}, []string{"ok 1 0 0 3", "ok 1 1 3 3"}, 0}, {[]string{"rebuild 5", "rebuild 5"}, []string{"ok 1 0 0 3", "ok 0 1 3 3"}, 12}, {[]string{"rebuild 5", "rebuild 5"}, []string{"ok 1 0 0 3", "ok 2 0 0 3"}, 0}, {[]string{"rebuild 5", "rebuild 5"}, []string{"ok 1 0 0 3", "ok 1 0 0 3"}, 12},
		// Status.
		{[]string{"status"}, []string{"ok 0 0 0 3 0"}, 0}, {[]string{"status"}, []string{"ok 0 0 0 3 1"}, 0}, {[]string{"status"}, []string{"ok 0 1 0 3 0"}, 12}, {[]string{"status"}, []string{"ok 1 0 0 3 0"}, 12}, {[]string{"status"}, []string{"ok -1 0 0 3 0"}, 12}, {[]string{"status"}, []string{"ok 0 0 1 3 0"}, 12}, {[]string{"status"}, []string{"ok 0 1 1 3 0"}, 12}, {[]string{"status"}, []string{"ok 0 0 0 2 0"}, 12}, {[]string{"status"}, []string{"ok 0 0 0 4 0"}, 12}, {[]string{"status"}, []string{"ok 0 0 -1 3 0"}, 12},
		{[]string{"rebuild 2", "status"}, []string{"ok 0 1 2 3", "ok 0 1 2 3 0"}, 0}, {[]string{"rebuild 2", "status"}, []string{"ok 0 1 2 3", "ok 0 0 2 3 0"}, 12}, {[]string{"rebuild 2", "status"}, []string{"ok 0 1 2 3", "ok 0 0 0 3 0"}, 12}, {[]string{"rebuild 2", "status"}, []string{"ok 0 1 2 3", "ok 0 1 1 3 0"}, 12}, {[]string{"rebuild 2", "status"}, []string{"ok 0 1 2 3", "ok 0 1 3 3 0"}, 12}, {[]string{"rebuild 2", "status"}, []string{"ok 1 0 0 3", "ok 1 0 0 3 0"}, 0}, {[]string{"rebuild 2", "status"}, []string{"ok 1 0 0 3", "ok 0 0 0 3 0"}, 12}, {[]string{"rebuild 2", "status"}, []string{"ok 1 0 0 3", "ok 2 0 0 3 0"}, 12}, {[]string{"rebuild 2", "status", "status"}, []string{"ok 0 1 2 3", "ok 0 1 2 3 0", "ok 0 1 2 3 1"}, 0},
		// Events in between.
		{[]string{"rebuild 5", "submit lock 2024-01-04", "rebuild 5"}, []string{"ok 0 1 3 3", "ok 4", "ok 0 1 4 4"}, 0}, {[]string{"rebuild 5", "submit lock 2024-01-04", "rebuild 5"}, []string{"ok 0 1 3 3", "ok 4", "ok 0 1 3 4"}, 12}, {[]string{"rebuild 5", "submit lock 2024-01-04", "status"}, []string{"ok 0 1 3 3", "ok 4", "ok 0 1 3 4 0"}, 0}, {[]string{"rebuild 5", "submit lock 2024-01-04", "status"}, []string{"ok 0 1 3 3", "ok 4", "ok 0 1 3 3 0"}, 12}, {[]string{"rebuild 5", "submit lock 2024-01-04", "status"}, []string{"ok 0 1 3 3", "error 71", "ok 0 1 3 3 0"}, 0},
		// Errors.
		{[]string{"rebuild 2", "rebuild 2", "status"}, []string{"ok 0 1 2 3", "error 40", "ok 0 0 0 3 0"}, 0}, {[]string{"rebuild 2", "rebuild 2", "status"}, []string{"ok 0 1 2 3", "error 40", "ok 0 1 2 3 0"}, 12}, {[]string{"rebuild 2", "rebuild 2", "rebuild 2"}, []string{"ok 0 1 2 3", "error 40", "ok 0 1 1 3"}, 0}, {[]string{"rebuild 2", "rebuild 1", "status"}, []string{"ok 0 1 2 3", "error 1", "ok 0 0 0 3 0"}, 0},
		{[]string{"rebuild 2", "rebuild 0", "status"}, []string{"ok 0 1 2 3", "error 1", "ok 0 1 2 3 0"}, 0}, {[]string{"rebuild 2", "rebuild 0", "status"}, []string{"ok 0 1 2 3", "error 1", "ok 0 0 0 3 0"}, 12}, {[]string{"rebuild 2", "rebuild -1", "status"}, []string{"ok 0 1 2 3", "error 34", "ok 0 1 2 3 0"}, 0}, {[]string{"rebuild 2", "status", "rebuild 2"}, []string{"ok 0 1 2 3", "error 5", "ok 0 1 3 3"}, 0}, {[]string{"rebuild 2", "status", "rebuild 2"}, []string{"ok 0 1 2 3", "error 5", "ok 0 1 2 3"}, 12},
		{[]string{"rebuild 5", "rebuild 5", "rebuild 2", "status"}, []string{"ok 0 1 3 3", "ok 1 0 0 3", "error 7", "ok 1 0 0 3 0"}, 0},
		// Down: the first error 34 of a rebuild ends it, later ones do not, nor do those of other commands.
		{[]string{"rebuild 2", "rebuild 2", "status"}, []string{"ok 0 1 2 3", "error 34", "ok 0 0 0 3 0"}, 0}, {[]string{"rebuild 2", "rebuild 2", "status"}, []string{"ok 0 1 2 3", "error 34", "ok 0 1 2 3 0"}, 12}, {[]string{"rebuild 2", "trial", "status"}, []string{"ok 0 1 2 3", "error 34", "ok 0 1 2 3 0"}, 0}, {[]string{"rebuild 2", "trial", "rebuild 2", "status"}, []string{"ok 0 1 2 3", "error 34", "error 34", "ok 0 1 2 3 0"}, 0}, {[]string{"rebuild 2", "trial", "rebuild 2", "status"}, []string{"ok 0 1 2 3", "error 34", "error 34", "ok 0 0 0 3 0"}, 12},
		// Openings.
		{[]string{"rebuild 2", "reopen", "status"}, []string{"ok 0 1 2 3", "ok 3", "ok 0 0 0 3 0"}, 0}, {[]string{"rebuild 2", "reopen", "status"}, []string{"ok 0 1 2 3", "ok 3", "ok 0 1 2 3 0"}, 12}, {[]string{"rebuild 2", "reopen", "status"}, []string{"ok 1 0 0 3", "ok 3", "ok 0 0 0 3 0"}, 0}, {[]string{"rebuild 2", "reopen", "status"}, []string{"ok 1 0 0 3", "ok 3", "ok 1 0 0 3 0"}, 12}, {[]string{"rebuild 2", "reopen", "rebuild 2"}, []string{"ok 1 0 0 3", "ok 3", "ok 0 1 2 3"}, 0}, {[]string{"rebuild 2", "crash", "reopen", "rebuild 2"}, []string{"ok 0 1 2 3", "ok", "ok 3", "ok 0 1 1 3"}, 0},
		{[]string{"rebuild 2", "crash", "status"}, []string{"ok 0 1 2 3", "error 5", "ok 0 1 2 3 0"}, 0},
	} {
		in := append(slices.Clone(three), x.lines...)
		var numbers []int
		for i := range in {
			numbers = append(numbers, i+1)
		}
		tells(t, in, numbered(numbers, append(slices.Clone(head), x.told...)...), x.rule, map[bool]int{true: len(in)}[x.rule > 0])
	}
	tells(t, []string{"daybook 1000 64 2", "rebuild 1", "rebuild 1", "status"}, []string{"1 ok 0", "2 ok 1 0 0 0", "3 ok 2 0 0 0", "4 ok 2 0 0 0 0"}, 0, 0)
	tells(t, []string{"daybook 1000 64 2", "rebuild 1"}, []string{"1 ok 0", "2 ok 0 1 0 0"}, 12, 2)
}

// TestP20_1_Rule13Down: a ledger that is down, till it is no more.
func TestP20_1_Rule13Down(t *testing.T) {
	for _, c := range every() {
		if c.on == "D" {
			continue
		}
		down := "error 34"
		switch {
		case strings.HasPrefix(c.line, "query"):
			down += " 0"
		case strings.HasPrefix(c.line, "import"):
			down += " 0 0 0"
		}
		exempt := c.line == "len" || c.line == "status"
		in := append(append([]string{"daybook 1000 64 2", "snapshot"}, strings.Split(c.line, "\n")...), "reopen")
		numbers := []int{1, 2, 3, len(in)}
		for _, told := range []string{c.ok, c.fails, down} {
			rule, line := 13, 3
			switch {
			case c.line == "event 1" && told == c.ok:
				rule = 5
			case c.line == "left i1" && told == c.ok:
				rule = 9
			case exempt, told == down:
				rule, line = 0, 0
			}
			tells(t, in, numbered(numbers, "ok 0", "error 34", told, "ok 0"), rule, line)
		}
		// Opened anew, it is not down.
		in = append(append([]string{"daybook 1000 64 2", "snapshot", "reopen"}, strings.Split(c.line, "\n")...), "snapshot")
		numbers = []int{1, 2, 3, 4, len(in)}
		tells(t, in, numbered(numbers, "ok 0", "error 34", "ok 0", c.fails, "ok"), 0, 0)
	}
	// Each command of the ledger makes it down, none of the disk does.
	for _, c := range every() {
		down := "error 34"
		switch {
		case strings.HasPrefix(c.line, "query"):
			down += " 0"
		case strings.HasPrefix(c.line, "import"):
			down += " 0 0 0"
		}
		in := append(append([]string{"daybook 1000 64 2"}, strings.Split(c.line, "\n")...), "snapshot")
		rule := map[string]int{"L": 13}[c.on]
		told := "ok"
		if c.line == "reopen" {
			told = "closed"
		}
		tells(t, in, numbered([]int{1, 2, len(in)}, "ok 0", down, told), rule, map[bool]int{true: 3}[rule > 0])
	}
	// What answers another error is not down.
	tells(t, []string{"daybook 1000 64 2", "trial", "query x", "trim 1", "snapshot"}, []string{"1 ok 0", "2 error 3", "3 error 3 34", "4 error 340", "5 ok"}, 0, 0)
	// The disk's commands go on.
	tells(t, []string{"daybook 1000 64 2", "snapshot", "fuse 1", "free", "files", "lose 0", "turn 0 0 1", "crash", "trial"}, []string{"1 ok 0", "2 error 34", "3 ok", "4 ok 5", "5 ok 0", "6 error 31", "7 error 31", "8 ok", "9 closed"}, 0, 0)
}

// TestP20_1_Rule13Full: a ledger that is full, till it is no more.
func TestP20_1_Rule13Full(t *testing.T) {
	journal := []string{"import", "lock 2024-01-05", "end"}
	for _, x := range []struct {
		lines []string
		told  []string
		rule  int // by the last of them
	}{
		{[]string{"submit lock 2024-01-01", "submit lock 2024-01-02"}, []string{"error 30", "error 180"}, 0}, {[]string{"submit lock 2024-01-01", "submit lock 2024-01-02"}, []string{"error 30", "ok 1"}, 13}, {[]string{"submit lock 2024-01-01", "submit lock 2024-01-02"}, []string{"error 30", "error 30"}, 13}, {[]string{"submit lock 2024-01-01", "submit x"}, []string{"error 30", "error 50"}, 13}, {[]string{"submit lock 2024-01-01", "submit x"}, []string{"error 30", "error 180"}, 0}, {[]string{"submit lock 2024-01-01", "submit x"}, []string{"error 30", "error 34"}, 0}, {[]string{"submit lock 2024-01-01", "submit x"}, []string{"error 30", "error 18"}, 13}, {[]string{"submit lock 2024-01-01", "submit x"}, []string{"error 30", "error 1"}, 13},
		{append([]string{"submit lock 2024-01-01"}, journal...), []string{"error 30", "ok 1"}, 13}, {append([]string{"submit lock 2024-01-01"}, journal...), []string{"error 30", "error 180 0 0 0"}, 0}, {append([]string{"submit lock 2024-01-01"}, journal...), []string{"error 30", "error 34 0 0 0"}, 0}, {append([]string{"submit lock 2024-01-01"}, journal...), []string{"error 30", "error 30 0 0 0"}, 13}, {append([]string{"submit lock 2024-01-01"}, journal...), []string{"error 30", "error 71 0 0 0"}, 13}, {[]string{"submit lock 2024-01-01", "import", "end"}, []string{"error 30", "ok 0"}, 13},
		{append(slices.Clone(journal), "submit lock 2024-01-02"), []string{"error 30 0 0 0", "ok 1"}, 13}, {append(slices.Clone(journal), "submit lock 2024-01-02"), []string{"error 30 1 0 0", "ok 2"}, 13}, {append(slices.Clone(journal), "submit lock 2024-01-02"), []string{"error 30 1 0 0", "error 180"}, 0}, {append(slices.Clone(journal), "submit lock 2024-01-02"), []string{"error 180 0 0 0", "ok 1"}, 0}, {append(slices.Clone(journal), "submit lock 2024-01-02"), []string{"error 2 0 0 30", "ok 1"}, 0},
		// Only by submit and import.
		{[]string{"snapshot", "submit lock 2024-01-02"}, []string{"error 30", "ok 1"}, 0}, {[]string{"trim 1", "submit lock 2024-01-02"}, []string{"error 30", "ok 1"}, 0}, {[]string{"trial", "submit lock 2024-01-02"}, []string{"error 30", "ok 1"}, 0}, {[]string{"submit lock 2024-01-01", "submit lock 2024-01-02"}, []string{"error 2", "ok 1"}, 0}, {[]string{"submit lock 2024-01-01", "submit lock 2024-01-02"}, []string{"error 180", "ok 1"}, 0},
		// Other commands go on.
		{[]string{"submit lock 2024-01-01", "trial", "snapshot", "rebuild 1", "len", "export"}, []string{"error 30", "ok 0", "error 30", "ok 1 0 0 0", "ok 0", "ok 0"}, 0},
		// Till a trim that removes something.
		{[]string{"submit lock 2024-01-01", "trim 0", "submit lock 2024-01-02"}, []string{"error 30", "ok 1", "ok 1"}, 0}, {[]string{"submit lock 2024-01-01", "trim 0", "submit lock 2024-01-02"}, []string{"error 30", "ok 0", "ok 1"}, 13}, {[]string{"submit lock 2024-01-01", "trim 0", "submit lock 2024-01-02"}, []string{"error 30", "ok -1", "ok 1"}, 13}, {[]string{"submit lock 2024-01-01", "trim 0", "submit lock 2024-01-02"}, []string{"error 30", "error 1", "ok 1"}, 13}, {[]string{"submit lock 2024-01-01", "trim 0", "trim 0", "submit lock 2024-01-02"}, []string{"error 30", "ok 5", "ok 0", "ok 1"}, 0}, {[]string{"trim 0", "submit lock 2024-01-01", "submit lock 2024-01-02"}, []string{"ok 5", "error 30", "ok 1"}, 13}, {[]string{"submit lock 2024-01-01", "trim 0", "submit lock 2024-01-02", "submit lock 2024-01-03"}, []string{"error 30", "ok 1", "error 30", "ok 1"}, 13},
		// Or it is opened anew.
		{[]string{"submit lock 2024-01-01", "reopen", "submit lock 2024-01-02"}, []string{"error 30", "ok 0", "ok 1"}, 0}, {[]string{"submit lock 2024-01-01", "crash", "reopen", "submit lock 2024-01-02"}, []string{"error 30", "ok", "ok 0", "ok 1"}, 0}, {[]string{"submit lock 2024-01-01", "crash", "submit lock 2024-01-02"}, []string{"error 30", "error 5", "ok 1"}, 13},
		// Status tells it, and may tell it of others.
		{[]string{"submit lock 2024-01-01", "status"}, []string{"error 30", "ok 0 0 0 0 1"}, 0}, {[]string{"submit lock 2024-01-01", "status"}, []string{"error 30", "ok 0 0 0 0 0"}, 12}, {[]string{"submit lock 2024-01-01", "trim 0", "status"}, []string{"error 30", "ok 1", "ok 0 0 0 0 0"}, 0}, {[]string{"submit lock 2024-01-01", "trim 0", "status"}, []string{"error 30", "ok 0", "ok 0 0 0 0 0"}, 12}, {[]string{"submit lock 2024-01-01", "status"}, []string{"error 5", "ok 0 0 0 0 1"}, 0}, {[]string{"submit lock 2024-01-01", "reopen", "status"}, []string{"error 30", "ok 0", "ok 0 0 0 0 0"}, 0}, {append(slices.Clone(journal), "status"), []string{"error 30 0 0 0", "ok 0 0 0 0 0"}, 12}, {[]string{"submit lock 2024-01-01", "trial", "status"}, []string{"error 30", "error 34", "ok 0 0 0 0 0"}, 12}, {[]string{"submit lock 2024-01-01", "trial", "status"}, []string{"error 30", "error 34", "ok 0 0 0 0 1"}, 0},
		// Down counts ahead of full.
		{[]string{"submit lock 2024-01-01", "trial", "submit lock 2024-01-02"}, []string{"error 30", "error 34", "error 34"}, 0}, {[]string{"submit lock 2024-01-01", "trial", "submit lock 2024-01-02"}, []string{"error 30", "error 34", "error 180"}, 13}, {[]string{"trial", "submit lock 2024-01-02"}, []string{"error 34", "error 30"}, 13},
	} {
		in := append([]string{"daybook 1000 64 2"}, x.lines...)
		numbers, told := []int{1}, append([]string{"ok 0"}, x.told...)
		for i, inside := 1, false; i < len(in); i++ {
			if !inside {
				numbers = append(numbers, i+1)
			}
			inside = (inside || in[i] == "import") && in[i] != "end"
		}
		tells(t, in, numbered(numbers, told...), x.rule, map[bool]int{true: len(told)}[x.rule > 0])
	}
}
