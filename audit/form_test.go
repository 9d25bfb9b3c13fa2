package audit

import (
	"fmt"
	"slices"
	"strings"
	"testing"

	"daybook/api"
	"daybook/script"
)

// story: a script with every command, answered with ok and, where it has rows, with some.
func story() []string {
	return []string{
		"daybook 100000 4096 2",
		"submit open 2024-01-01 A asset",
		"submit open 2024-01-02 A:B",
		"submit open 2024-01-01 I income",
		"submit open 2024-01-03 Z expense",
		"submit close 2024-01-04 Z",
		"submit invoice 2024-01-10 i1 A I due 2024-02-09 100",
		"submit invoice 2024-01-10 i0 A I due 2024-02-09 20.5 \"m\"",
		"submit invoice 2024-01-09 i2 A I due 2024-02-10 7",
		"submit pay 2024-02-20 p1 A A:B 60",
		"submit allot 2024-02-20 a1 p1 i1 45",
		"submit post 2024-02-21 x1 \"rent\" A:B -5 #flat, I 5",
		"submit void 2024-02-22 v1 x1",
		"import",
		"post 2024-02-23 x2",
		"  A:B  -1",
		"  I",
		"lock 2024-01-05",
		"end",
		"len",
		"event 10",
		"trial",
		"rollup A",
		"daily A:B 2024-01-01 2024-12-31",
		"aged A 2024-03-11",
		"open A 2024-03-11",
		"accounts",
		"left i1",
		"query by account show count, sum(amount)",
		"export",
		"sheet trial",
		"sheet tree",
		"sheet income 2024-01-01 2024-12-31",
		"sheet position 2024-12-31",
		"sheet statement A 2024-03-11",
		"snapshot",
		"trim 1",
		"rebuild 5",
		"status",
		"fuse -1",
		"free",
		"files",
		"lose 0",
		"reopen",
		"snapshot",
		"turn 0 3 7",
		"crash 1 2",
		"reopen",
	}
}

// storyItems: its answers.
func storyItems(t *testing.T) []item {
	t.Helper()
	trace := traceOf(t, text(story()...))
	commands, _ := script.Parse(text(story()...))
	items, is := modelItems(commands, trace)
	words := map[string]bool{}
	for _, it := range items {
		if !it.says("ok") {
			t.Fatalf("%v: %s", it.c, it.first)
		}
		if shapes[it.c.Word].row != "none" && len(it.rows) < 2 {
			t.Fatalf("%v: %d rows", it.c, len(it.rows))
		}
		words[it.c.Word] = true
	}
	if !is || len(words) != len(shapes) {
		t.Fatalf("%s", trace)
	}
	checks(t, text(story()...), trace, 0, 0, api.OK)
	return items
}

// with: the story's trace with one answer in the place of another one.
func with(items []item, i int, first string, rows ...string) string {
	l := slices.Clone(items)
	l[i].first, l[i].rows = first, rows
	return written(l)
}

// wrong: of each sort of words those that are none; fitting: some that are.
var (
	wrong = map[string][]string{
		"N": {"", "x", "-0", "00", "007", "+1", "-", "--1", "1.0", "1e3", "0x1", "12345678901", "-12345678901", "1\t", "\x00", "٣", "1_0"},
		"A": {"", "x", "1", "1.", "1.0", "1.000", ".50", "01.00", "-0.00", "+1.00", "--1.00", "1,00", "-", "00.00", "1.00\r", "92233720368547758.08", "-92233720368547758.08", "99999999999999999999999999999999999999.00", "1.0x", "1.-1"},
		"D": {"", "x", "2024-1-01", "2024-02-30", "2023-02-29", "0000-01-01", "24-01-01", "2024-01-01x", "+024-01-01", "2024/01/01", "738886", "10000-01-01", "2024-13-01", "2024-00-10", "2024-01-00"},
		"F": {"", "2", "-1", "00", "01", "x", "true", "-0", "10"},
		"S": {"", "Open", "opened", "close", "OPEN", "0", "1", "ok"},
		"W": {"", "\t", "a\t", "\x00", "a\x7f", "\x80", "a\xff", "é"},
	}
	fitting = map[string][]string{
		"N": {"0", "-1", "9999999999", "-9999999999", "1000000000"},
		"A": {"0.00", "-0.01", "92233720368547758.07", "-92233720368547758.07", "10.10"},
		"D": {"0001-01-01", "9999-12-31", "2024-02-29"},
		"F": {"0", "1"},
		"S": {"open", "closed"},
		"W": {"!", "~", "|", "A:B:C", "\"x\"", strings.Repeat("w", 3000)},
	}
)

// TestP20_1_FormWords: each word of each good answer, and of its rows, missing, doubled, or of another kind.
func TestP20_1_FormWords(t *testing.T) {
	in, items := text(story()...), storyItems(t)
	isForm := func(trace string, line int, want bool) {
		t.Helper()
		rule, at, why := Check(in, trace)
		if is := rule == 1 && at == line; is != want || why != api.OK {
			t.Fatalf("%s%d, %d, %v, rule 1 at %d: want %v", trace, rule, at, why, line, want)
		}
		checksAlike(t, in, trace)
	}
	for i, it := range items {
		shape := shapes[it.c.Word]
		if it.c.Word == "event" {
			continue
		}
		words := it.words()
		var wants []string
		if shape.ok != "" {
			wants = strings.Split(shape.ok, " ")
		}
		for k, sort := range wants {
			but := func(w string) string {
				l := slices.Clone(words)
				l[k+1] = w
				return with(items, i, strings.Join(l, " "), it.rows...)
			}
			for _, w := range wrong[sort] {
				isForm(but(w), it.line, true)
			}
			if !(k == 0 && shape.row != "none") { // a count goes with its rows
				for _, w := range fitting[sort] {
					isForm(but(w), it.line, false)
				}
			}
			isForm(with(items, i, strings.Join(slices.Delete(slices.Clone(words), k+1, k+2), " "), it.rows...), it.line, true)
			isForm(with(items, i, strings.Join(slices.Insert(slices.Clone(words), k+1, words[k+1]), " "), it.rows...), it.line, true)
			isForm(with(items, i, strings.Join(slices.Insert(slices.Clone(words), k+1, ""), " "), it.rows...), it.line, true)
		}
		for _, more := range []string{" ", " 0", " x", "  ", " 0 0"} {
			isForm(with(items, i, it.first+more, it.rows...), it.line, true)
		}
		if shape.ok != "" {
			isForm(with(items, i, "ok", it.rows...), it.line, true)
			isForm(with(items, i, "ok "), it.line, true)
		}
		for n, r := range it.rows {
			but := func(s string) string {
				l := slices.Clone(it.rows)
				l[n] = s
				return with(items, i, it.first, l...)
			}
			switch shape.row {
			case "cells":
				for _, s := range []string{" ", " x", " |x", " \t"} {
					isForm(but(s), it.line, true)
				}
				for _, s := range []string{"  ", "   ", "  \x00\xff", "  x y z", r + " ", r[:3]} {
					isForm(but(s), it.line, false)
				}
			case "quoted":
				for _, s := range []string{" ", "  ", " x", "  |x", " \t|x", " \\x"} {
					isForm(but(s), it.line, true)
				}
				for _, s := range []string{" |", " ||", " |  ", " |\x00\xff", r + " "} {
					isForm(but(s), it.line, false)
				}
			default:
				cells := strings.Split(r[2:], " ")
				for k, sort := range strings.Split(shape.row, " ") {
					changed := func(w string) string {
						l := slices.Clone(cells)
						l[k] = w
						return "  " + strings.Join(l, " ")
					}
					for _, w := range wrong[sort] {
						isForm(but(changed(w)), it.line, true)
					}
					for _, w := range fitting[sort] {
						isForm(but(changed(w)), it.line, false)
					}
					isForm(but("  "+strings.Join(slices.Delete(slices.Clone(cells), k, k+1), " ")), it.line, true)
					isForm(but("  "+strings.Join(slices.Insert(slices.Clone(cells), k, cells[k]), " ")), it.line, true)
				}
				for _, s := range []string{r[1:], " " + r, r + " ", r + " x", "  ", " ", " |" + r[2:], " \t" + r[2:], strings.Replace(r, " ", "  ", 3)} {
					isForm(but(s), it.line, true)
				}
			}
		}
	}
}

// TestP20_1_FormRows: a row too few, one too many, and rows where there are none.
func TestP20_1_FormRows(t *testing.T) {
	in, items := text(story()...), storyItems(t)
	for i, it := range items {
		if shapes[it.c.Word].row == "none" {
			for _, row := range []string{"  ", " ", " |", "  x", " |x", "  1 1"} {
				checks(t, in, with(items, i, it.first, row), 1, it.line, api.OK)
			}
			continue
		}
		n := len(it.rows)
		checks(t, in, with(items, i, it.first), 1, it.line, api.OK)
		checks(t, in, with(items, i, it.first, it.rows[1:]...), 1, it.line, api.OK)
		checks(t, in, with(items, i, it.first, it.rows[:n-1]...), 1, it.line, api.OK)
		checks(t, in, with(items, i, it.first, append(slices.Clone(it.rows), it.rows[n-1])...), 1, it.line, api.OK)
		words := it.words()
		for _, count := range []int{n - 1, n + 1, 0, -n, -1, 9999999999} {
			words[1] = fmt.Sprint(count)
			checks(t, in, with(items, i, strings.Join(words, " "), it.rows...), 1, it.line, api.OK)
		}
		words[1] = fmt.Sprint(n - 1)
		if rule, _, _ := Check(in, with(items, i, strings.Join(words, " "), it.rows[1:]...)); rule == 1 {
			t.Errorf("%v: one row less, counted", it.c)
		}
		words[1] = "-1"
		checks(t, in, with(items, i, strings.Join(words, " ")), 1, it.line, api.OK)
	}
}

// TestP20_1_FormErrors: error and closed, with and without what stands behind it.
func TestP20_1_FormErrors(t *testing.T) {
	in, items := text(story()...), storyItems(t)
	for i, it := range items {
		behind := ""
		switch it.c.Word {
		case "query":
			behind = " 0"
		case "import":
			behind = " 0 0 0"
		}
		isForm := func(first string, want bool, rows ...string) {
			t.Helper()
			trace := with(items, i, first, rows...)
			if rule, at, why := Check(in, trace); (rule == 1 && at == it.line) != want || why != api.OK {
				t.Fatalf("%v: %q: %d, %d, %v", it.c, first, rule, at, why)
			}
			checksAlike(t, in, trace)
		}
		for _, e := range []string{"1", "34", "41", "190", "9999999999"} {
			isForm("error "+e+behind, false)
			isForm("error "+e+behind, true, "  x")
			isForm("error "+e+behind, true, " |")
			isForm("error "+e+behind+" ", true)
			isForm("error "+e+behind+" 0", true)
			isForm("error "+e+" 0 0 0 0", true)
			isForm("error "+e+" 0 0", true)
			if behind != "" {
				isForm("error "+e, true)
				isForm("error "+e+behind[2:], true)
				for k := range strings.Count(behind, " ") {
					words := strings.Split(behind, " ")
					for _, w := range wrong["N"] {
						words[k+1] = w
						isForm("error "+e+strings.Join(words, " "), true)
					}
					words[k+1] = "-1"
					isForm("error "+e+strings.Join(words, " "), false)
				}
			}
		}
		for _, e := range append([]string{"0", "-1", "-34"}, wrong["N"]...) {
			isForm("error "+e+behind, true)
		}
		isForm("error", true)
		isForm("error ", true)
		isForm("error  34"+behind, true)
		isForm("closed", false)
		for _, s := range []string{"closed ", "closed 0", "closed closed", "closed  "} {
			isForm(s, true)
		}
		isForm("closed", true, "  x")
		isForm("closed", true, " ")
	}
}

// TestP20_1_FormEvent: what stands behind the ok of an event is its line, whatever it is: rule 5 looks at it.
func TestP20_1_FormEvent(t *testing.T) {
	in, items := text(story()...), storyItems(t)
	for i, it := range items {
		if it.c.Word != "event" {
			continue
		}
		for _, s := range []string{"ok", "ok ", "ok  ", "ok x", "ok 1 2 3", "ok \x00\xff", "ok  " + it.first[3:], it.first + " ", strings.Replace(it.first, "45.00", "45", 1), "ok " + strings.Repeat("x", 5000)} {
			checks(t, in, with(items, i, s), 5, it.line, api.OK)
		}
		for _, row := range []string{"  ", " ", " |x"} {
			checks(t, in, with(items, i, it.first, row), 1, it.line, api.OK)
			checks(t, in, with(items, i, "ok", row), 1, it.line, api.OK)
		}
	}
}

// TestP20_1_FormDigits: amounts are printed with the script's digits; where these are none, no word is an amount.
func TestP20_1_FormDigits(t *testing.T) {
	for digits := -1; digits <= 8; digits++ {
		in := fmt.Sprintf("daybook 100000 4096 %d\nrollup A\n", digits)
		for n := range 9 {
			zero := amountText("0", n)
			want := 1
			if n == digits && digits <= 6 {
				want = 0
			}
			trace := "1 ok 0\n2 ok " + zero + " " + zero + "\n"
			checks(t, in, trace, want, 2*want, api.OK)
			checksAlike(t, in, trace)
		}
		trial := fmt.Sprintf("daybook 100000 4096 %d\ntrial\n", digits)
		checks(t, trial, "1 ok 0\n2 ok 0\n", 0, 0, api.OK)
	}
}
