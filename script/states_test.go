package script

import (
	"fmt"
	"strings"
	"testing"

	"daybook/api"
)

// each: a command of every kind, and whether it works on the ledger.
func each() []struct {
	lines    []string
	onLedger bool
} {
	type x = struct {
		lines    []string
		onLedger bool
	}
	var l []x
	for _, s := range []string{"submit open 2024-01-03 B asset", "submit", "submit open 2024-01-03 A asset", "len", "event 1", "event 0", "trial", "rollup A", "rollup x", "daily A 2024-01-01 2024-01-02", "daily A 2024-01-02 2024-01-01", "aged A 2024-01-01", "open A 2024-01-01", "accounts", "left i1", "query show count", "query show", "query", "export", "import\nlock 2024-01-01\nend", "import\nx\nend", "import\nend",
		"sheet trial", "sheet tree", "sheet income 2024-01-01 2024-01-02", "sheet income 2024-01-02 2024-01-01", "sheet position 2024-01-01", "sheet statement A 2024-01-01", "sheet statement x 2024-01-01", "snapshot", "trim 1", "trim -1", "rebuild 5", "rebuild 0", "status"} {
		l = append(l, x{strings.Split(s, "\n"), true})
	}
	for _, s := range []string{"fuse 3", "fuse -2", "free", "files", "crash", "crash 1 2", "reopen", "lose 0", "lose 9", "turn 0 0 1", "turn 9 0 1"} {
		l = append(l, x{[]string{s}, false})
	}
	return l
}

// TestP19_2_NoDisk: every command answers closed.
func TestP19_2_NoDisk(t *testing.T) {
	for _, head := range []string{"daybook -1 4096 2", "daybook 1048577 4096 2", "daybook -9999999999 0 99", "daybook 9999999999 4096 2"} {
		for _, c := range each() {
			plays(t, text(append([]string{head}, c.lines...)...), "1 error 1", "2 closed")
			plays(t, text(append([]string{head, "reopen", "crash"}, c.lines...)...), "1 error 1", "2 closed", "3 closed", "4 closed")
		}
	}
}

// TestP19_2_NoLedger: those of the ledger answer closed, those of the disk go on.
func TestP19_2_NoLedger(t *testing.T) {
	for _, x := range []struct {
		lines []string
		head  int // answers ahead
	}{
		{[]string{"daybook 100000 4096 2", "crash"}, 2},
		{[]string{"daybook 100000 63 2"}, 1},
		{[]string{"daybook 100000 65537 2"}, 1},
		{[]string{"daybook 100000 4096 -1"}, 1},
		{[]string{"daybook 100000 4096 7"}, 1},
		{[]string{"daybook 14 4096 2"}, 1},
		{[]string{"daybook 0 4096 2"}, 1},
		{[]string{"daybook 100000 4096 2", "submit open 2024-01-01 A asset", "snapshot", "lose 0"}, 4},
		{[]string{"daybook 100000 4096 2", "submit open 2024-01-01 A asset", "snapshot", "turn 0 0 1"}, 4},
		{[]string{"daybook 100000 4096 2", "fuse 0", "submit open 2024-01-01 A asset", "reopen"}, 4},
	} {
		for _, c := range each() {
			in := text(append(append([]string{}, x.lines...), c.lines...)...)
			got := answersOf(playsAlike(t, in))
			last := got[len(got)-1]
			if isClosed := last == fmt.Sprintf("%d closed\n", len(x.lines)+1); isClosed != c.onLedger || len(got) != x.head+1 {
				t.Errorf("%s%q", in, got)
			}
		}
	}
	plays(t, text("daybook 100 63 2", "free", "files", "reopen", "fuse 1", "lose 0", "turn 0 0 0", "crash", "len"),
		"1 error 1", "2 ok 100", "3 ok 0", "4 error 1", "5 ok", "6 error 31", "7 error 31", "8 ok", "9 closed")
	plays(t, text("daybook 14 4096 2", "len", "reopen", "len"), "1 error 30", "2 closed", "3 error 30", "4 closed")
	plays(t, text("daybook 15 4096 2", "len", "files"), "1 ok 0", "2 ok 0", "3 ok 2", "  log 15 15", "  log-000001 0 0")
}

// TestP19_2_Down: a ledger that is down.
func TestP19_2_Down(t *testing.T) {
	head := []string{"daybook 100000 4096 2", "submit open 2024-01-01 A asset", "snapshot", "rebuild 1", "fuse 0", "submit lock 2024-01-01"}
	told := []string{"1 ok 0", "2 ok 1", "3 ok", "4 ok 0 1 1 1", "5 ok", "6 error 34"}
	for _, c := range each() {
		want := "7 error 34"
		switch c.lines[0] {
		case "len":
			want = "7 ok 1"
		case "status":
			want = "7 ok 0 1 1 1 0"
		case "query", "query show", "query show count":
			want += " 0"
		case "import":
			want += " 0 0 0"
		case "crash", "crash 1 2":
			want = "7 ok"
		case "fuse -2":
			want = "7 error 1"
		case "lose 0", "lose 9", "turn 0 0 1", "turn 9 0 1":
			want = "7 error 31"
		case "free", "files":
			continue
		}
		in := append(append([]string{}, head...), c.lines...)
		plays(t, text(in...), append(append([]string{}, told...), want)...)
		// And behind it the ledger is as it was, but where it is gone.
		gone := c.lines[0] == "reopen" || strings.HasPrefix(c.lines[0], "crash")
		behind := fmt.Sprintf("%d ok 1", len(in)+1)
		if gone {
			behind = fmt.Sprintf("%d closed", len(in)+1)
		}
		plays(t, text(append(in, "len")...), append(append(append([]string{}, told...), want), behind)...)
		playsAlike(t, text(in...))
	}
	plays(t, text(append(head, "files", "free", "len")...), append(told, "7 ok 3", "  ckpt-000001 43 43", "  log 15 15", "  log-000001 15 15", "8 ok 99927", "9 ok 1")...)
}

// TestP19_2_Untold: the disk has failed in a checkpoint's clean-up, and no answer has told it: reports go on; a command that reads events meets it.
func TestP19_2_Untold(t *testing.T) {
	head := []string{"daybook 60 4096 2", "submit open 2024-01-01 A asset", "fuse 1", "snapshot"}
	told := []string{"1 ok 0", "2 ok 1", "3 ok", "4 error 30"}
	for _, x := range []struct {
		line string
		want []string
		met  bool
	}{
		{"len", []string{"5 ok 1"}, false},
		{"trial", []string{"5 ok 0"}, false},
		{"rollup A", []string{"5 ok 0.00 0.00"}, false},
		{"accounts", []string{"5 ok 1", "  A 1 2024-01-01 open"}, false},
		{"query show count", []string{"5 ok 1 1", "  0"}, false},
		{"sheet trial", []string{"5 ok 2", " |Account  Debit  Credit", " |Sum       0.00    0.00"}, false},
		{"sheet tree", []string{"5 ok 1", " |A  0.00"}, false},
		{"sheet statement x 2024-01-01", []string{"5 error 61"}, false},
		{"event 2", []string{"5 error 41"}, false},
		{"submit x", []string{"5 error 50"}, false},
		{"submit open 2024-01-01 A asset", []string{"5 error 62"}, false},
		{"rebuild 0", []string{"5 error 1"}, false},
		{"trim -1", []string{"5 error 1"}, false},
		{"fuse 1", []string{"5 error 34"}, false},
		{"lose 0", []string{"5 error 31"}, false},
		{"turn 0 0 1", []string{"5 error 31"}, false},
		{"status", []string{"5 ok 0 0 0 1 0"}, false},
		{"event 1", []string{"5 error 34"}, true},
		{"export", []string{"5 error 34"}, true},
		{"sheet income 2024-01-01 2024-01-02", []string{"5 error 34"}, true},
		{"sheet income 2024-01-02 2024-01-01", []string{"5 error 34"}, true},
		{"sheet position 2024-01-01", []string{"5 error 34"}, true},
		{"submit lock 2024-01-01", []string{"5 error 34"}, true},
		{"snapshot", []string{"5 error 34"}, true},
		{"trim 0", []string{"5 error 34"}, true},
		{"rebuild 1", []string{"5 error 34"}, true},
	} {
		last := "6 ok 0"
		if x.met {
			last = "6 error 34"
		}
		plays(t, text(append(append([]string{}, head...), x.line, "trial")...), append(append(append([]string{}, told...), x.want...), last)...)
	}
	// Without events there is none to be read.
	plays(t, text("daybook 40 64 2", "fuse 1", "snapshot", "sheet income 2024-01-01 2024-01-02", "export", "event 1", "trial", "sheet income 2024-01-02 2024-01-01"),
		"1 ok 0", "2 ok", "3 error 30", "4 ok 6", " |From 2024-01-01 to 2024-01-02", " |Income", " |Sum      0.00", " |Expense", " |Sum      0.00", " |Result   0.00", "5 ok 0", "6 error 41", "7 ok 0", "8 error 1")
}

// TestP19_2_Digits: amounts stand with the digits of the first line.
func TestP19_2_Digits(t *testing.T) {
	for digits, amount := range []string{"5", "0.5", "0.05", "0.005", "0.0005", "0.00005", "0.000005"} {
		zero := strings.ReplaceAll(amount, "5", "0")
		plays(t, text(fmt.Sprintf("daybook 100000 4096 %d", digits), "submit open 2024-01-01 A asset", "submit open 2024-01-01 I income", "submit invoice 2024-01-01 i A I due 2024-01-01 "+amount,
			"trial", "rollup A", "rollup I", "daily A 2024-01-01 2024-01-01", "aged A 2024-01-02", "open A 2024-01-02", "left i", "query show sum(debit), min(amount)", "event 3", "export"),
			"1 ok 0", "2 ok 1", "3 ok 2", "4 ok 3",
			"5 ok 2", "  A "+amount+" "+zero, "  I "+zero+" "+amount,
			"6 ok "+amount+" "+amount, "7 ok -"+amount+" -"+amount,
			"8 ok 1", "  2024-01-01 "+amount+" "+amount,
			"9 ok "+zero+" "+amount+" "+zero+" "+zero+" "+zero,
			"10 ok 1", "  i 2024-01-01 2024-01-01 "+amount,
			"11 ok "+amount,
			"12 ok 1 2", "  "+amount+" -"+amount,
			"13 ok invoice 2024-01-01 i A I due 2024-01-01 "+amount,
			"14 ok 3", " |open 2024-01-01 A asset", " |open 2024-01-01 I income", " |invoice 2024-01-01 i A I due 2024-01-01 "+amount)
	}
}

// TestP19_2_Cells: a query's cells of each kind, truths too, which no query that is read shows.
func TestP19_2_Cells(t *testing.T) {
	p := player{settings: api.Settings{Digits: 2}}
	for _, x := range []struct {
		c    api.Cell
		want string
	}{
		{api.Cell{Type: api.TNum, Num: -5}, "-5"}, {api.Cell{Type: api.TNum, Num: api.MaxAmount}, "9223372036854775807"}, {api.Cell{Type: api.TNum}, "0"},
		{api.Cell{Type: api.TMoney, Num: -5}, "-0.05"}, {api.Cell{Type: api.TMoney, Num: api.MaxAmount}, "92233720368547758.07"}, {api.Cell{Type: api.TMoney}, "0.00"},
		{api.Cell{Type: api.TDay, Num: 1}, "0001-01-01"}, {api.Cell{Type: api.TDay, Num: api.MaxDay}, "9999-12-31"},
		{api.Cell{Type: api.TBool}, "false"}, {api.Cell{Type: api.TBool, Num: 1}, "true"},
		{api.Cell{Type: api.TText}, `""`}, {api.Cell{Type: api.TText, Text: `a "b" c`}, `"a "b" c"`},
	} {
		same(t, "a cell", p.cellWord(x.c), x.want)
	}
	plays(t, begun("submit open 2024-01-01 A asset", "submit open 2024-01-01 B asset", `submit post 2024-01-02 x "a  b " A 5 #t, B -5`,
		"query by seq, line, day, kind, key, account, amount, debit, credit, tag, memo, month, year, root show count, sum(amount * 2), min(day - 1), max('say \"x\"'), min(0 - seq)", "query show count", "query show min(memo)", "query where false show min(memo)", "query where false show count, sum(amount)"),
		"1 ok 0", "2 ok 1", "3 ok 2", "4 ok 3",
		`5 ok 2 19`, `  3 1 2024-01-02 3 "x" "A" 5.00 5.00 0.00 "t" "a  b " 202401 2024 "A" 1 10.00 2024-01-01 "say "x"" -3`, `  3 2 2024-01-02 3 "x" "B" -5.00 0.00 5.00 "" "a  b " 202401 2024 "B" 1 -10.00 2024-01-01 "say "x"" -3`,
		"6 ok 1 1", "  2", "7 ok 1 1", `  "a  b "`, "8 ok 0 1", "9 ok 1 2", "  0 0.00")
}

// TestP19_2_Queries: the place of a fault, and what has none.
func TestP19_2_Queries(t *testing.T) {
	long := strings.Repeat(" ", 590) + "show count"
	plays(t, begun("query "+long, "query "+long+" ", "query "+strings.Repeat("(", 17), "query show sum("+strings.Repeat("(", 17)+"1", "query where memo = ' show count", "query show count x", "query show sum(day)", "query show sum(9223372036854775807) limit 1"),
		"1 ok 0", "2 ok 1 1", "  0", "3 error 3 600", "4 error 130 0", "5 error 131 24", "6 error 130 13", "7 error 130 11", "8 error 140 0", "9 ok 1 1", "  0")
}

// TestP19_2_Room: a disk that is full.
func TestP19_2_Room(t *testing.T) {
	plays(t, text("daybook 70 4096 2", "submit open 2024-01-01 A asset", "import", "lock 2024-01-01", "lock 2024-01-02", "lock 2024-01-03", "lock 2024-01-04", "lock 2024-01-05", "end", "len", "status", "submit lock 2024-02-01", "submit x", "import", "x", "end", "import", "end", "trial", "snapshot", "trim 0", "rebuild 3", "event 4", "event 5", "reopen", "status", "submit lock 2024-02-01", "len"),
		"1 ok 0", "2 ok 1", "3 error 30 3 0 0", "10 ok 4", "11 ok 0 0 0 4 1", "12 error 180", "13 error 180", "14 error 180 0 0 0", "17 error 180 0 0 0", "19 ok 0", "20 error 30", "21 ok 0", "22 ok 0 1 3 4", "23 ok lock 2024-01-03", "24 error 41", "25 ok 4", "26 ok 0 0 0 4 0", "27 error 30", "28 ok 4")
	// A checkpoint that is trimmed makes room.
	plays(t, text("daybook 103 4096 2", "submit open 2024-01-01 A asset", "snapshot", "free", "submit lock 2024-01-01", "submit lock 2024-01-02", "submit lock 2024-01-03", "submit lock 2024-01-03", "trim 1", "status", "trim 0", "status", "submit lock 2024-01-03", "len"),
		"1 ok 0", "2 ok 1", "3 ok", "4 ok 30", "5 ok 2", "6 ok 3", "7 error 30", "8 error 180", "9 ok 0", "10 ok 0 0 0 3 1", "11 ok 1", "12 ok 0 0 0 3 0", "13 ok 4", "14 ok 4")
}

// TestP19_2_Most: a thousand events, and one more; an export that is too long.
func TestP19_2_Most(t *testing.T) {
	l, want := []string{"daybook 1048576 4096 2"}, []string{"1 ok 0"}
	for i := range 1000 {
		l = append(l, "submit lock "+dateText(d+i))
		want = append(want, fmt.Sprintf("%d ok %d", i+2, i+1))
	}
	l = append(l, "submit lock 2030-01-01", "len", "snapshot", "event 1000", "event 1001", "rebuild 999", "rebuild 9999999999", "rebuild 1", "reopen", "lose 0", "lose 0", "reopen", "submit lock 2030-01-01")
	want = append(want, "1002 error 2", "1003 ok 1000", "1004 ok", "1005 ok lock "+dateText(d+999), "1006 error 41", "1007 ok 0 1 999 1000", "1008 ok 0 1 1000 1000", "1009 ok 1 0 0 1000", "1010 ok 1000", "1011 ok ckpt-001000", "1012 error 31", "1013 ok 1000", "1014 error 2")
	plays(t, text(l...), want...)

	part := "Abcdefghijklmn-9"
	name := part
	l = []string{"daybook 1048576 4096 0", "submit open 2024-01-01 A asset", "submit open 2024-01-01 " + name + " asset"}
	for range 5 {
		name += ":" + part
		l = append(l, "submit open 2024-01-01 "+name)
	}
	for i := range 320 {
		l = append(l, fmt.Sprintf("submit post 2024-01-01 k%d %s 11%s", i, name, strings.Repeat(", A -1", 11)))
	}
	l = append(l, "len", "export", "event 327")
	got := answersOf(traceOf(t, text(l...)))
	same(t, "the last answers", got[len(got)-3:], []string{"329 ok 327\n", "330 error 3\n", "331 ok post 2024-01-01 k319 " + name + " 11" + strings.Repeat(", A -1", 11) + "\n"})
}
