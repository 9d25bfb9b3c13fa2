package audit

import (
	"fmt"
	"slices"
	"strings"
	"testing"

	"daybook/api"
	"daybook/ckpt"
	"daybook/disk"
	"daybook/ledger"
	"daybook/script"
)

// TestP20_1_Order: where one answer breaks two rules, the first of them is told.
func TestP20_1_Order(t *testing.T) {
	lock, post := "submit lock 2024-01-01", "submit post 2024-01-01 k A 1, B -1"
	up := []string{"daybook 1000 64 2", post}    // one event
	gone := append(slices.Clone(up), "crash")    // and no ledger
	down := append(slices.Clone(up), "trim 1")   // and a ledger that is down
	full := append(slices.Clone(up), "submit x") // and one that is full
	told := map[string][]string{"up": {"ok 0", "ok 1"}, "gone": {"ok 0", "ok 1", "ok"}, "down": {"ok 0", "ok 1", "error 34"}, "full": {"ok 0", "ok 1", "error 30"}}
	heads := map[string][]string{"up": up, "gone": gone, "down": down, "full": full}
	met := map[string]bool{}
	for _, x := range []struct {
		state string
		lines []string // the last command, behind others
		told  []string
		rules []int // those that the last answer breaks; with a row that has no place below it, it breaks rule 1 too
	}{
		{"up", []string{"len"}, []string{"ok 7"}, []int{3}},
		{"up", []string{lock}, []string{"ok 7"}, []int{3}},
		{"up", []string{"reopen"}, []string{"ok 7"}, []int{4}},
		{"up", []string{"event 1"}, []string{"ok x"}, []int{5}},
		{"up", []string{post}, []string{"ok 2"}, []int{6}},
		{"up", []string{"trial"}, []string{"ok 0"}, []int{7}},
		{"up", []string{"rollup A"}, []string{"ok 0.00 0.00"}, []int{8}},
		{"up", []string{"daily A 2024-01-01 2024-01-01"}, []string{"ok 0"}, []int{8}},
		{"up", []string{"left k"}, []string{"ok 0.00"}, []int{9}},
		{"up", []string{"aged A 2024-01-01"}, []string{"ok 0.01 0.00 0.00 0.00 0.00"}, []int{9}},
		{"up", []string{"accounts"}, []string{"ok 1\n  A 0 2024-01-01 open"}, []int{10}},
		{"up", []string{"query x", "query x"}, []string{"ok 0 0", "ok 0 1"}, []int{11}},
		{"up", []string{"rebuild 1"}, []string{"ok 0 0 0 1"}, []int{12}},
		{"up", []string{"status"}, []string{"ok 0 0 0 2 0"}, []int{12}},
		{"down", []string{"export"}, []string{"ok 0"}, []int{13}},
		{"full", []string{lock}, []string{"ok 2"}, []int{13}},
		{"up", []string{"len"}, []string{"closed"}, []int{2}},

		{"gone", []string{"len"}, []string{"ok 7"}, []int{2, 3}},
		{"gone", []string{lock}, []string{"ok 7"}, []int{2, 3}},
		{"gone", []string{"import", "x", "end"}, []string{"ok 0"}, []int{2, 3}},
		{"gone", []string{"event 1"}, []string{"ok x"}, []int{2, 5}},
		{"gone", []string{post}, []string{"ok 2"}, []int{2, 6}},
		{"gone", []string{"trial"}, []string{"ok 0"}, []int{2, 7}},
		{"gone", []string{"rollup A"}, []string{"ok 0.00 0.00"}, []int{2, 8}},
		{"gone", []string{"left k"}, []string{"ok 0.00"}, []int{2, 9}},
		{"gone", []string{"accounts"}, []string{"ok 1\n  A 0 2024-01-01 open"}, []int{2, 10}},
		{"up", []string{"query x", "crash", "query x"}, []string{"ok 0 0", "ok", "ok 0 1"}, []int{2, 11}},
		{"gone", []string{"rebuild 1"}, []string{"ok 0 0 0 1"}, []int{2, 12}},
		{"down", []string{"export"}, []string{"closed"}, []int{2, 13}},
		{"up", []string{"len", "len"}, []string{"ok 1", "ok 2"}, []int{3, 11}},
		{"down", []string{lock}, []string{"ok 1"}, []int{3, 13}},
		{"full", []string{lock}, []string{"ok 1"}, []int{3, 13}},
		{"down", []string{"import", "end"}, []string{"error 5 1 0 0"}, []int{3, 13}},
		{"up", []string{"event 1", "event 1"}, []string{"ok post 2024-01-01 k A 1.00, B -1.00", "ok x"}, []int{5, 11}},
		{"down", []string{"event 1"}, []string{"error 41"}, []int{5, 13}},
		{"down", []string{post}, []string{"ok 2"}, []int{6, 13}},
		{"full", []string{post}, []string{"ok 2"}, []int{6, 13}},
		{"up", []string{"trial", "trial"}, []string{"ok 2\n  A 1.00 0.00\n  B 0.00 1.00", "ok 0"}, []int{7, 11}},
		{"down", []string{"trial"}, []string{"ok 0"}, []int{7, 13}},
		{"up", []string{"rollup A", "rollup A"}, []string{"ok 1.00 1.00", "ok 0.00 0.00"}, []int{8, 11}},
		{"down", []string{"rollup A"}, []string{"ok 0.00 0.00"}, []int{8, 13}},
		{"up", []string{"left k", "left k"}, []string{"error 73", "ok 0.00"}, []int{9, 11}},
		{"down", []string{"left k"}, []string{"ok 0.00"}, []int{9, 13}},
		{"up", []string{"accounts", "accounts"}, []string{"ok 0", "ok 1\n  A 0 2024-01-01 open"}, []int{10, 11}},
		{"down", []string{"accounts"}, []string{"ok 1\n  A 0 2024-01-01 open"}, []int{10, 13}},
		{"down", []string{"export", "export"}, []string{"error 34", "ok 0"}, []int{11, 13}},
		{"down", []string{"trial", "trial"}, []string{"error 34", "ok 0"}, []int{7, 11, 13}},
		{"down", []string{"rebuild 1"}, []string{"ok 0 0 0 1"}, []int{12, 13}},
	} {
		in := append(slices.Clone(heads[x.state]), x.lines...)
		answers := append(slices.Clone(told[x.state]), x.told...)
		var numbers []int
		for i := range answers {
			numbers = append(numbers, i+1)
		}
		trace := numbered(numbers, answers...)
		place := 1 + len(numbered(numbers, answers[:len(answers)-1]...))
		broken := checksAlike(t, text(in...), text(trace...))
		for rule, is := range broken {
			if is != slices.Contains(x.rules, rule) {
				t.Fatalf("%v, %v: rule %d: %v", in, answers, rule, is)
			}
		}
		tells(t, in, trace, x.rules[0], place)
		tells(t, in, append(slices.Clone(trace), "  x"), 1, place)
		for i, rule := range x.rules {
			met[fmt.Sprint(1, " ", rule)] = true
			for _, other := range x.rules[i+1:] {
				met[fmt.Sprint(rule, " ", other)] = true
			}
		}
	}
	tells(t, []string{"daybook -1 64 2"}, []string{"1 ok 5"}, 2, 1)                                                // and 4
	tells(t, append(slices.Clone(up), post), []string{"1 ok 0", "2 ok 1", "3 ok 7"}, 3, 3)                         // and 6
	tells(t, append(slices.Clone(up), post, "reopen"), []string{"1 ok 0", "2 ok 1", "3 error 34", "4 ok 3"}, 4, 4) // and 6
	for i := 2; i <= 13; i++ {
		if !met[fmt.Sprint(1, " ", i)] {
			t.Errorf("no answer has rule 1 ahead of %d", i)
		}
	}
}

// pieces: a script's lines, of which an import and all up to its end are one.
func pieces(in string) []string {
	var l []string
	inside := false
	for _, s := range strings.SplitAfter(in, "\n") {
		if s == "" {
			continue
		}
		if inside {
			l[len(l)-1] += s
		} else {
			l = append(l, s)
		}
		inside = (inside || s == "import\n") && s != "end\n"
	}
	return l
}

// TestP20_3_Beginnings: each beginning of a right script and trace is right; and of a wrong one each up to the answer that is told.
func TestP20_3_Beginnings(t *testing.T) {
	r := source(31)
	for n := range 60 {
		in, trace := right(t, r, 40)
		if n%2 == 0 {
			in = wildScript(r, 30)
			trace = lie(r, in)
		}
		commands, _ := script.Parse(in)
		items, _ := modelItems(commands, trace)
		beginning, k := "", 0
		for i, piece := range pieces(in) {
			beginning += piece
			if i > 0 && (piece == "\n" || piece[0] == '#') {
				continue
			}
			k++
			checks(t, beginning, written(items[:k]), 0, 0, api.OK)
			checks(t, strings.TrimSuffix(beginning, "\n"), written(items[:k]), 0, 0, api.OK)
			if k > 1 {
				checks(t, beginning, written(items[:k-1]), 0, 0, api.ErrTrace)
			}
			if k < len(items) {
				checks(t, beginning, written(items[:k+1]), 0, 0, api.ErrTrace)
			}
		}
		if k != len(items) {
			t.Fatalf("%s", in)
		}
	}
}

// TestP20_3_Remarks: remarks and empty lines play no part but for the lines' numbers.
func TestP20_3_Remarks(t *testing.T) {
	r := source(32)
	for n := range 150 {
		in, trace := right(t, r, 30)
		if n%2 == 0 {
			in = wildScript(r, 30)
			trace = lie(r, in)
		}
		commands, _ := script.Parse(in)
		if n%3 > 0 {
			trace = spoilt(r, commands, trace, atoi(commands[0].Args[2]))
		}
		rule, line, why := Check(in, trace)
		items, is := modelItems(commands, trace)
		if !is {
			t.Fatalf("%s", trace)
		}
		more := ""
		for i, piece := range pieces(in) {
			if i > 0 && (piece == "\n" || piece[0] == '#') && r.IntN(2) == 0 {
				continue
			}
			if more += piece; r.IntN(2) == 0 {
				more += pick(r, "\n", "# x\n", "#\n", "\n\n# len\n")
			}
		}
		again, err := script.Parse(more)
		if err != nil || len(again) != len(commands) {
			t.Fatalf("%s: %v", more, err)
		}
		for i := range items {
			items[i].c = again[i]
		}
		checks(t, more, written(items), rule, line, why)
	}
}

// TestP20_4: the first broken answer is told, whatever stands in the answers behind it.
func TestP20_4(t *testing.T) {
	r := source(41)
	found := map[int]int{}
	for n := range 700 {
		in, trace := "", ""
		if n%2 == 0 {
			in, trace = right(t, r, 30)
		} else {
			in = wildScript(r, 30)
			trace = lie(r, in)
		}
		commands, _ := script.Parse(in)
		digits := atoi(commands[0].Args[2])
		trace = spoilt(r, commands, trace, digits)
		rule, line, _ := Check(in, trace)
		if rule == 0 {
			continue
		}
		found[rule]++
		items, _ := modelItems(commands, trace)
		from := slices.IndexFunc(items, func(it item) bool { return it.line == line })
		if from < 0 {
			t.Fatalf("%d\n%s", line, trace)
		}
		for range 8 {
			changed := slices.Clone(items)
			for i := from + 1; i < len(changed); i++ {
				switch r.IntN(5) {
				case 0:
					changed[i].first, changed[i].rows = anyAnswer(r, changed[i].c, digits)
				case 1:
					changed[i].first, changed[i].rows = pick(r, "ok", "closed", "error", "ok \xff", "error 34", "ok 9", "closed x"), nil
				case 2:
					changed[i].rows = append(slices.Clone(changed[i].rows), pick(r, " ", "  x", " |", " \x00"))
				}
			}
			checks(t, in, written(changed), rule, line, api.OK)
		}
	}
	if len(found) < 10 {
		t.Errorf("rules: %v", found)
	}
}

// TestP20_2_Crashes: the power fails at every call of a script, with every sort of crash behind it.
func TestP20_2_Crashes(t *testing.T) {
	body := func(fuse int, more ...string) string {
		l := []string{"daybook 100000 64 2", "submit open 2024-01-01 A asset", "submit open 2024-01-01 B asset", "snapshot", "rebuild 1", fmt.Sprintf("fuse %d", fuse),
			"submit post 2024-01-02 x A 1, B -1", "len", "status", "import", "post 2024-01-03 y", "  A 2", "  B", "post 2024-01-04 z A 3, B -3", "lock 2024-01-04", "end", "rebuild 1", "status", "snapshot", "event 1", "export", "submit post 2024-01-05 w A 4, B -4", "trim 1", "rebuild 2", "status", "trial", "sheet income 2024-01-01 2024-01-31", "query show count", "daily A 2024-01-01 2024-01-31"}
		return text(append(l, more...)...)
	}
	took := map[string]int{}
	for fuse := range 40 {
		for keep := range 70 {
			in := body(fuse, "lose 0", fmt.Sprintf("crash %d %d 3", keep, keep/2), "len", "reopen", "len", "trial", "export", "status", "submit post 2024-01-06 v A 1, B -1", "fuse 1", "submit post 2024-01-06 u A 1, B -1", fmt.Sprintf("crash %d", keep), "reopen", "export", "accounts")
			trace := traceOf(t, in)
			checks(t, in, trace, 0, 0, api.OK)
			commands, _ := script.Parse(in)
			items, _ := modelItems(commands, trace)
			for i, it := range items {
				if s := learn(commands[0], items[:i]); it.c.Word == "reopen" && len(s.pending) > 0 {
					took[fmt.Sprint(it.num(1)-len(s.events))]++
				}
			}
		}
	}
	if took["0"] == 0 || took["1"] == 0 || len(took) != 2 {
		t.Errorf("pending events: %v", took)
	}
}

// TestP20_2_Checkpoints: each byte of a checkpoint turned, each checkpoint lost, and a full disk.
func TestP20_2_Checkpoints(t *testing.T) {
	head := []string{"submit open 2024-01-01 A asset", "submit open 2024-01-01 B asset", "snapshot", "submit invoice 2024-01-02 i A B due 2024-01-03 5", "submit post 2024-01-02 x A 1, B -1", "snapshot", "submit lock 2024-01-05"}
	rest := []string{"reopen", "len", "trial", "aged A 2024-01-09", "export", "rebuild 3", "status", "submit post 2024-01-06 v A 1, B -1", "accounts"}
	for n := range 3 {
		for at := range 130 {
			in := text(slices.Concat([]string{"daybook 100000 4096 2"}, head, []string{fmt.Sprintf("turn %d %d %d", n, at, 1+at*7%255)}, rest)...)
			checks(t, in, traceOf(t, in), 0, 0, api.OK)
		}
		in := text(slices.Concat([]string{"daybook 100000 4096 2"}, head, []string{fmt.Sprintf("lose %d", n), "lose 0"}, rest)...)
		checks(t, in, traceOf(t, in), 0, 0, api.OK)
	}
	for capacity := range 500 {
		in := text(slices.Concat([]string{fmt.Sprintf("daybook %d 64 2", capacity)}, head, []string{"status", "submit lock 2024-01-07", "trim 1", "status", "submit lock 2024-01-07", "import", "lock 2024-01-08", "lock 2024-01-09", "end", "trim 0", "submit lock 2024-01-10", "status"}, rest)...)
		checks(t, in, traceOf(t, in), 0, 0, api.OK)
	}
}

// TestP20_2_Most: as many events as the books take.
func TestP20_2_Most(t *testing.T) {
	l := []string{"daybook 1048576 65536 2", "submit open 2024-01-01 A asset", "submit open 2024-01-01 B income", "import"}
	for i := range 1010 {
		l = append(l, fmt.Sprintf("invoice 2024-01-%02d k%d A B due 2024-02-%02d %d", 1+i%28, i, 1+i%28, i+1))
	}
	l = append(l, "end", "len", "trial", "aged A 2024-03-15", "open A 2024-02-01", "daily A 2024-01-01 2024-12-31", "left k7", "rebuild 600", "status", "rebuild 600", "submit lock 2024-01-01", "event 1000", "event 1001")
	in := text(l...)
	trace := traceOf(t, in)
	checks(t, in, trace, 0, 0, api.OK)
	if !strings.Contains(trace, "4 error 2 998 0 0\n") {
		t.Errorf("%s", short(trace))
	}
}

// renamed: a checkpoint's bytes in which the account B is called C throughout, sums and all.
func renamed(t *testing.T, data []byte) []byte {
	t.Helper()
	snap, why := ckpt.Decode(data)
	if why != api.OK {
		t.Fatal(why)
	}
	to := func(name *string) {
		if *name == "B" {
			*name = "C"
		}
	}
	for i := range snap.Base.Accounts {
		to(&snap.Base.Accounts[i].Name)
	}
	for i := range snap.Base.Rows {
		to(&snap.Base.Rows[i].Account)
	}
	for _, e := range snap.Base.Entries {
		for i := range e.Lines {
			to(&e.Lines[i].Account)
		}
	}
	for i := range snap.Balances {
		to(&snap.Balances[i].Account)
	}
	for i := range snap.Days {
		to(&snap.Days[i].Account)
	}
	forged, why := ckpt.Encode(snap)
	if why != api.OK || len(forged) != len(data) {
		t.Fatal(why)
	}
	return forged
}

// TestP20_2_Forged: whoever turns several bytes of one checkpoint can forge it; the ledger takes it at its word, and the trace then breaks a rule.
func TestP20_2_Forged(t *testing.T) {
	whole, _ := disk.New(100000)
	l, _ := ledger.Open(whole, api.Settings{Segment: 4096, Digits: 2})
	lines := []string{"daybook 100000 4096 2"}
	for _, s := range []string{"open 2024-01-01 A asset", "open 2024-01-01 B asset", "post 2024-01-02 x A 1, B -1"} {
		l.Text(s)
		lines = append(lines, "submit "+s)
	}
	l.Snapshot()
	lines = append(lines, "snapshot")
	data := whole.State().Files[0].Data
	for at, b := range renamed(t, data) {
		if b != data[at] {
			lines = append(lines, fmt.Sprintf("turn 0 %d %d", at, b^data[at]))
		}
	}
	lines = append(lines, "reopen")
	in := text(append(lines, "trial")...)
	trace := traceOf(t, in)
	if !turnsTwice(in, trace) {
		t.Fatalf("%s", trace)
	}
	checks(t, in, trace, 7, len(lines)+1, api.OK)
	in = text(append(lines, "accounts")...)
	checks(t, in, traceOf(t, in), 10, len(lines)+1, api.OK)
	in = text(append(lines, "len", "event 2", "export")...)
	checks(t, in, traceOf(t, in), 0, 0, api.OK)
}
