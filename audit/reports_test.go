package audit

import (
	"fmt"
	"math/big"
	"math/rand/v2"
	"slices"
	"strings"
	"testing"

	"daybook/api"
	"daybook/script"
)

// reported: which rule looks at a report's answers.
var reported = map[string]int{"trial": 7, "rollup": 8, "daily": 8, "aged": 9, "open": 9, "left": 9, "accounts": 10}

// asksAll: commands that ask all reports, at days around all that happens.
func asksAll() []string {
	l := []string{"trial", "accounts"}
	for _, name := range []string{"Assets", bank, cust, ann, "Income", work, "Costs", "Nobody"} {
		l = append(l, "rollup "+name, "daily "+name+" 2023-12-01 2024-12-31", "daily "+name+" 2024-01-20 2024-02-20", "daily "+name+" 2024-02-20 2024-01-20")
	}
	for i := 0; i < 220; i += 9 {
		l = append(l, "aged "+ann+" "+dateText(d+i), "open "+ann+" "+dateText(d+i))
	}
	return l
}

// TestP20_1_Reports: behind many events of every kind each report is right; with one word of it, or one row, otherwise it is not.
func TestP20_1_Reports(t *testing.T) {
	r := source(7)
	broken := map[string]int{}
	for range 6 {
		m := newMaker(r, 2)
		l := []string{"daybook 1048576 65536 2"}
		for range 90 {
			l = append(l, "submit "+m.line())
		}
		l = append(l, asksAll()...)
		for _, c := range slices.Concat(m.books.Base().Invoices, m.books.Base().Payments) {
			l = append(l, "left "+c.Key)
		}
		in := text(l...)
		trace := traceOf(t, in)
		checks(t, in, trace, 0, 0, api.OK)
		checksAlike(t, in, trace)
		commands, _ := script.Parse(in)
		items, _ := modelItems(commands, trace)
		for i, it := range items {
			rule := reported[it.c.Word]
			if rule == 0 || !it.says("ok") {
				continue
			}
			for _, changed := range otherwise(r, it) {
				if changed.first == it.first && slices.Equal(changed.rows, it.rows) {
					continue
				}
				checks(t, in, with(items, i, changed.first, changed.rows...), rule, it.line, api.OK)
				broken[it.c.Word]++
			}
		}
	}
	for word := range reported {
		if broken[word] < 50 {
			t.Errorf("%s: %d", word, broken[word])
		}
	}
}

// otherwise: the answer with each of its words, and of some of its rows, otherwise, each of its form; with a row missing, doubled, and in another place.
func otherwise(r *rand.Rand, it item) []item {
	var l []item
	words := it.words()
	if shapes[it.c.Word].row == "none" {
		for i := 1; i < len(words); i++ {
			for _, w := range others(words[i]) {
				changed := slices.Clone(words)
				changed[i] = w
				l = append(l, item{first: strings.Join(changed, " ")})
			}
		}
		return l
	}
	counted := func(rows []string) item { return item{first: fmt.Sprintf("ok %d", len(rows)), rows: rows} }
	l = append(l, counted(append(slices.Clone(it.rows), map[string]string{"trial": "  Zz 1.00 0.00", "daily": "  2024-12-31 1.00 1.00", "open": "  zz 2024-01-01 2024-12-31 1.00", "accounts": "  Zz 1 2024-01-01 open"}[it.c.Word])))
	if len(it.rows) == 0 {
		return l
	}
	n := r.IntN(len(it.rows))
	l = append(l, counted(slices.Delete(slices.Clone(it.rows), n, n+1)), counted(slices.Insert(slices.Clone(it.rows), n, it.rows[n])), counted(nil))
	other := r.IntN(len(it.rows))
	changed := slices.Clone(it.rows)
	changed[n], changed[other] = changed[other], changed[n]
	l = append(l, counted(changed))
	cells := strings.Split(it.rows[n][2:], " ")
	for k := range cells {
		for _, w := range others(cells[k]) {
			changed, row := slices.Clone(it.rows), slices.Clone(cells)
			row[k] = w
			changed[n] = "  " + strings.Join(row, " ")
			l = append(l, counted(changed))
		}
	}
	return l
}

// others: words of the same sort.
func others(w string) []string {
	n := units(w, 2)
	switch {
	case w == "open":
		return []string{"closed"}
	case w == "closed":
		return []string{"open"}
	case isDate(w):
		return []string{dateText(dayNumber(w) + 1), dateText(dayNumber(w) - 1), "9999-12-31"}
	case sorts["N"].MatchString(w):
		return []string{fmt.Sprint(atoi(w) + 1), fmt.Sprint(atoi(w) - 1), "-" + strings.TrimPrefix(w, "-")}
	case n != "":
		a, _ := new(big.Int).SetString(n, 10)
		var l []string
		for _, b := range []*big.Int{new(big.Int).Add(a, big.NewInt(1)), new(big.Int).Sub(a, big.NewInt(1)), new(big.Int).Neg(a), new(big.Int).Mul(a, big.NewInt(100))} {
			if s := amountText(b.String(), 2); units(s, 2) != "" && s != w {
				l = append(l, s)
			}
		}
		return l
	}
	return []string{w + "x", "A" + w, w[:len(w)-1] + "~"}
}

// whole: a script of submits that are all taken, and then a question.
type whole struct {
	lines, told []string
}

func taken(events ...string) *whole {
	w := &whole{[]string{"daybook 100000 4096 2"}, []string{"1 ok 0"}}
	for i, e := range events {
		w.lines = append(w.lines, "submit "+e)
		w.told = append(w.told, fmt.Sprintf("%d ok %d", i+2, i+1))
	}
	return w
}

// asks: the question must be answered just so: the other answers that are given break the rule.
func (w *whole) asks(t *testing.T, question, right string, rule int, other ...string) {
	t.Helper()
	in := append(slices.Clone(w.lines), question)
	n := len(in)
	if right != "" {
		tells(t, in, append(slices.Clone(w.told), strings.Split(fmt.Sprintf("%d %s", n, right), "\n")...), 0, 0)
	}
	for _, s := range other {
		tells(t, in, append(slices.Clone(w.told), strings.Split(fmt.Sprintf("%d %s", n, s), "\n")...), rule, n)
	}
}

// TestP20_1_Rule7: trial balances.
func TestP20_1_Rule7(t *testing.T) {
	w := taken("post 2024-01-01 a B 1, A -2, A:B 1, A-B 0.5, AB 0.5, C 1, C -1")
	w.asks(t, "trial", "ok 5\n  A 0.00 2.00\n  A-B 0.50 0.00\n  A:B 1.00 0.00\n  AB 0.50 0.00\n  B 1.00 0.00", 7,
		"ok 0", "ok 6\n  A 0.00 2.00\n  A-B 0.50 0.00\n  A:B 1.00 0.00\n  AB 0.50 0.00\n  B 1.00 0.00\n  C 0.00 0.00",
		"ok 5\n  A -2.00 0.00\n  A-B 0.50 0.00\n  A:B 1.00 0.00\n  AB 0.50 0.00\n  B 1.00 0.00", "ok 5\n  A 0.00 -2.00\n  A-B 0.50 0.00\n  A:B 1.00 0.00\n  AB 0.50 0.00\n  B 1.00 0.00", "ok 5\n  A 2.00 0.00\n  A-B 0.50 0.00\n  A:B 1.00 0.00\n  AB 0.50 0.00\n  B 1.00 0.00", "ok 5\n  A 1.00 3.00\n  A-B 0.50 0.00\n  A:B 1.00 0.00\n  AB 0.50 0.00\n  B 1.00 0.00", "ok 5\n  A-B 0.50 0.00\n  A 0.00 2.00\n  A:B 1.00 0.00\n  AB 0.50 0.00\n  B 1.00 0.00")
	// An error is no trial balance that could be wrong.
	w.asks(t, "trial", "error 7", 7)
	// Of each kind its rows.
	taken("invoice 2024-01-01 i A B due 2024-01-01 3").asks(t, "trial", "ok 2\n  A 3.00 0.00\n  B 0.00 3.00", 7, "ok 2\n  A 0.00 3.00\n  B 3.00 0.00", "ok 0")
	taken("pay 2024-01-01 i A B 3").asks(t, "trial", "ok 2\n  A 0.00 3.00\n  B 3.00 0.00", 7, "ok 2\n  A 3.00 0.00\n  B 0.00 3.00", "ok 0")
	taken("open 2024-01-01 A asset", "close 2024-01-01 A", "lock 2024-01-01", "allot 2024-01-01 k x y 5").asks(t, "trial", "ok 0", 7, "ok 1\n  A 5.00 0.00", "ok 1\n  A 0.00 0.00")
	// Voids: of the posting ahead of it, twice too; of none, of one that comes later, of another kind.
	taken("post 2024-01-01 x A 1, B -1", "void 2024-01-02 v x").asks(t, "trial", "ok 0", 7, "ok 2\n  A 1.00 0.00\n  B 0.00 1.00")
	taken("post 2024-01-01 x A 1, B -1", "void 2024-01-02 v x", "void 2024-01-02 w x").asks(t, "trial", "ok 2\n  A 0.00 1.00\n  B 1.00 0.00", 7, "ok 0")
	taken("void 2024-01-02 v x", "post 2024-01-01 x A 1, B -1").asks(t, "trial", "ok 2\n  A 1.00 0.00\n  B 0.00 1.00", 7, "ok 0")
	taken("void 2024-01-02 v v").asks(t, "trial", "ok 0", 7)
	taken("pay 2024-01-01 x A B 1", "void 2024-01-02 v x", "void 2024-01-02 w v").asks(t, "trial", "ok 2\n  A 0.00 1.00\n  B 1.00 0.00", 7, "ok 0")
	taken("post 2024-01-01 x A 1, A 2, A -5 #t", "void 2024-01-02 v x").asks(t, "daily A 2024-01-01 2024-01-02", "ok 2\n  2024-01-01 -2.00 -2.00\n  2024-01-02 2.00 0.00", 8)
}

// TestP20_1_Rule8: balances and days.
func TestP20_1_Rule8(t *testing.T) {
	w := taken("post 2024-01-05 a A 1, A:B 2, A:B:C 4, AB 8, A-B 16, B 32, B:A 64", "post 2024-01-03 b A -3, A:B 1, A:B:C -8, C 1", "post 2024-01-05 c A 7, A -1")
	for name, told := range map[string]string{"A": "ok 4.00 3.00", "A:B": "ok 3.00 -1.00", "A:B:C": "ok -4.00 -4.00", "AB": "ok 8.00 8.00", "A-B": "ok 16.00 16.00", "B": "ok 32.00 96.00", "B:A": "ok 64.00 64.00", "C": "ok 1.00 1.00", "D": "ok 0.00 0.00", "A:": "ok 0.00 0.00", ":": "ok 0.00 0.00", "A:B:": "ok 0.00 0.00", "a": "ok 0.00 0.00", "A:C": "ok 0.00 0.00", ":B": "ok 0.00 0.00"} {
		var other []string
		for _, s := range []string{"ok 4.00 4.00", "ok 3.00 3.00", "ok 0.00 3.00", "ok 0.00 1.00", "ok 1.00 0.00", "ok 4.00 11.00", "ok -1.00 3.00", "ok 32.00 32.00", "ok 16.00 -16.00"} {
			if s != told {
				other = append(other, s)
			}
		}
		w.asks(t, "rollup "+name, told, 8, other...)
	}
	w.asks(t, "daily A 2024-01-01 2024-12-31", "ok 2\n  2024-01-03 -3.00 -3.00\n  2024-01-05 7.00 4.00", 8, "ok 2\n  2024-01-05 7.00 7.00\n  2024-01-03 -3.00 4.00", "ok 2\n  2024-01-05 7.00 4.00\n  2024-01-03 -3.00 -3.00", "ok 2\n  2024-01-03 -3.00 -3.00\n  2024-01-05 7.00 7.00", "ok 1\n  2024-01-05 7.00 4.00", "ok 0", "ok 3\n  2024-01-03 -3.00 -3.00\n  2024-01-04 0.00 -3.00\n  2024-01-05 7.00 4.00", "ok 2\n  2024-01-03 -10.00 -10.00\n  2024-01-05 -1.00 -11.00")
	w.asks(t, "daily A 2024-01-04 2024-01-05", "ok 1\n  2024-01-05 7.00 4.00", 8, "ok 1\n  2024-01-05 7.00 7.00", "ok 0")
	w.asks(t, "daily A 2024-01-05 2024-01-05", "ok 1\n  2024-01-05 7.00 4.00", 8)
	w.asks(t, "daily A 2024-01-03 2024-01-04", "ok 1\n  2024-01-03 -3.00 -3.00", 8)
	w.asks(t, "daily A 2024-01-03 2024-01-03", "ok 1\n  2024-01-03 -3.00 -3.00", 8)
	w.asks(t, "daily A 2024-01-04 2024-01-04", "ok 0", 8, "ok 1\n  2024-01-04 0.00 -3.00")
	w.asks(t, "daily A 2024-01-05 2024-01-03", "ok 0", 8, "ok 1\n  2024-01-05 7.00 4.00")
	w.asks(t, "daily A 2024-01-06 9999-12-31", "ok 0", 8)
	w.asks(t, "daily D 0001-01-01 9999-12-31", "ok 0", 8)
	// A day on which the change is 0, by rows on it.
	taken("post 2024-01-02 a A 5, B -5", "post 2024-01-03 b A 1, A -1", "post 2024-01-04 c A 2, B -2").asks(t, "daily A 0001-01-01 9999-12-31", "ok 2\n  2024-01-02 5.00 5.00\n  2024-01-04 2.00 7.00", 8, "ok 3\n  2024-01-02 5.00 5.00\n  2024-01-03 0.00 5.00\n  2024-01-04 2.00 7.00")
	taken("post 0001-01-01 a A 5, B -5", "post 9999-12-31 b A 1, B -1").asks(t, "daily A 0001-01-01 9999-12-31", "ok 2\n  0001-01-01 5.00 5.00\n  9999-12-31 1.00 6.00", 8, "ok 0")
}

// TestP20_1_Rule9: invoices, what is open and what is left.
func TestP20_1_Rule9(t *testing.T) {
	w := taken("invoice 2024-01-10 i A B due 2024-02-09 100", "pay 2024-02-20 p A C 60", "allot 2024-02-20 x p i 45", "invoice 2024-01-10 j B A due 2024-02-09 7")
	zero := "0.00 "
	for date, told := range map[string]string{
		"2024-01-09": zero + zero + zero + zero + "0.00", "2024-01-10": "100.00 " + zero + zero + zero + "0.00", "2024-02-09": "100.00 " + zero + zero + zero + "0.00", "2024-02-10": zero + "100.00 " + zero + zero + "0.00", "2024-02-19": zero + "100.00 " + zero + zero + "0.00", "2024-02-20": zero + "55.00 " + zero + zero + "0.00",
		"2024-03-10": zero + "55.00 " + zero + zero + "0.00", "2024-03-11": zero + zero + "55.00 " + zero + "0.00", "2024-04-09": zero + zero + "55.00 " + zero + "0.00", "2024-04-10": zero + zero + zero + "55.00 0.00", "2024-05-09": zero + zero + zero + "55.00 0.00", "2024-05-10": zero + zero + zero + zero + "55.00", "9999-12-31": zero + zero + zero + zero + "55.00",
	} {
		var other []string
		for i := range 5 {
			for _, amount := range []string{"100.00", "55.00", "45.00", "62.00", "-55.00"} {
				words := []string{"0.00", "0.00", "0.00", "0.00", "0.00"}
				words[i] = amount
				if s := strings.Join(words, " "); s != told {
					other = append(other, "ok "+s)
				}
			}
		}
		w.asks(t, "aged A "+date, "ok "+told, 9, other...)
	}
	w.asks(t, "aged C 2024-05-10", "ok 0.00 0.00 0.00 0.00 0.00", 9)
	w.asks(t, "open A 2024-01-09", "ok 0", 9, "ok 1\n  i 2024-01-10 2024-02-09 100.00")
	w.asks(t, "open A 2024-01-10", "ok 1\n  i 2024-01-10 2024-02-09 100.00", 9, "ok 1\n  i 2024-01-10 2024-02-09 55.00", "ok 0", "ok 1\n  j 2024-01-10 2024-02-09 100.00", "ok 1\n  i 2024-02-09 2024-01-10 100.00")
	w.asks(t, "open A 2024-02-20", "ok 1\n  i 2024-01-10 2024-02-09 55.00", 9, "ok 1\n  i 2024-01-10 2024-02-09 100.00")
	w.asks(t, "open C 2024-02-20", "ok 0", 9, "ok 1\n  p 2024-02-20 2024-02-20 60.00")
	for key, told := range map[string]string{"i": "ok 55.00", "p": "ok 15.00", "j": "ok 7.00"} {
		w.asks(t, "left "+key, told, 9, "ok 0.00", "ok 100.00", "ok 60.00", "ok -45.00")
	}
	// Nothing is left of what is no invoice and no payment.
	for _, key := range []string{"x", "k", "I", "!"} {
		w.asks(t, "left "+key, "error 73", 9, "ok 0.00", "ok 45.00", "ok -45.00")
	}
	taken("post 2024-01-01 k A 1, B -1", "void 2024-01-01 v k").asks(t, "left k", "error 73", 9, "ok 0.00", "ok 1.00")
	// By rising Due, then Day, then Key.
	w = taken("invoice 2024-01-02 b A B due 2024-02-01 1", "invoice 2024-01-02 a A B due 2024-02-01 2", "invoice 2024-01-01 c A B due 2024-02-01 3", "invoice 2024-01-03 d A B due 2024-01-31 4", "invoice 2024-01-02 a.b A B due 2024-02-01 5", "invoice 2024-01-02 B A B due 2024-02-01 6")
	sorted := []string{"  d 2024-01-03 2024-01-31 4.00", "  c 2024-01-01 2024-02-01 3.00", "  B 2024-01-02 2024-02-01 6.00", "  a 2024-01-02 2024-02-01 2.00", "  a.b 2024-01-02 2024-02-01 5.00", "  b 2024-01-02 2024-02-01 1.00"}
	var other []string
	for i := range sorted {
		for k := range i {
			changed := slices.Clone(sorted)
			changed[i], changed[k] = changed[k], changed[i]
			other = append(other, "ok 6\n"+strings.Join(changed, "\n"))
		}
	}
	w.asks(t, "open A 2024-03-01", "ok 6\n"+strings.Join(sorted, "\n"), 9, other...)
	// Whatever order they come in; more allotted than invoiced; named as a payment, or as both.
	taken("allot 2024-02-01 x p i 40", "pay 2024-01-01 p A B 50", "invoice 2024-01-01 i A B due 2024-01-01 30", "invoice 2024-01-01 j A B due 2024-01-01 5").asks(t, "aged A 2024-02-01", "ok 0.00 0.00 -5.00 0.00 0.00", 9, "ok 0.00 0.00 5.00 0.00 0.00", "ok 0.00 0.00 35.00 0.00 0.00")
	taken("allot 2024-02-01 x p i 40", "pay 2024-01-01 p A B 50", "invoice 2024-01-01 i A B due 2024-01-01 30", "invoice 2024-01-01 j A B due 2024-01-01 5").asks(t, "open A 2024-02-01", "ok 1\n  j 2024-01-01 2024-01-01 5.00", 9, "ok 2\n  i 2024-01-01 2024-01-01 -10.00\n  j 2024-01-01 2024-01-01 5.00", "ok 0")
	taken("invoice 2024-01-01 i A B due 2024-01-01 30", "allot 2024-01-01 x p i 30").asks(t, "open A 2024-02-01", "ok 0", 9, "ok 1\n  i 2024-01-01 2024-01-01 0.00")
	w = taken("invoice 2024-01-01 i A B due 2024-01-01 30", "pay 2024-01-01 p A B 50", "allot 2024-01-01 x i p 1", "allot 2024-01-01 y i i 2", "allot 2024-01-01 z p p 4", "allot 9999-12-31 w p i 8")
	w.asks(t, "left i", "ok 19.00", 9, "ok 17.00", "ok 20.00", "ok 27.00", "ok 22.00", "ok 28.00")
	w.asks(t, "left p", "ok 37.00", 9, "ok 33.00", "ok 38.00", "ok 42.00", "ok 45.00")
	w.asks(t, "open A 2024-02-01", "ok 1\n  i 2024-01-01 2024-01-01 28.00", 9, "ok 1\n  i 2024-01-01 2024-01-01 30.00", "ok 1\n  i 2024-01-01 2024-01-01 27.00", "ok 1\n  i 2024-01-01 2024-01-01 19.00")
	w.asks(t, "open A 9999-12-31", "ok 1\n  i 2024-01-01 2024-01-01 20.00", 9, "ok 1\n  i 2024-01-01 2024-01-01 28.00")
}

// TestP20_1_Rule10: accounts.
func TestP20_1_Rule10(t *testing.T) {
	w := taken("open 2024-01-05 B equity", "open 2024-01-02 A asset", "open 2024-01-03 A:B", "open 2024-01-04 A-B liability", "open 2024-01-06 C:D", "open 2024-01-01 A:B", "open 2024-01-01 B income", "close 2024-01-09 A-B", "close 2024-01-09 E", "open 2024-01-07 AB expense", "close 2024-01-08 F", "open 2024-01-09 F income")
	rows := []string{"  A 1 2024-01-02 open", "  A-B 2 2024-01-04 closed", "  A:B 1 2024-01-03 open", "  AB 5 2024-01-07 open", "  B 3 2024-01-05 open", "  C:D 0 2024-01-06 open", "  F 4 2024-01-09 closed"}
	var other []string
	for i, row := range rows {
		other = append(other, fmt.Sprintf("ok %d\n%s", len(rows)-1, strings.Join(slices.Delete(slices.Clone(rows), i, i+1), "\n")), fmt.Sprintf("ok %d\n%s", len(rows)+1, strings.Join(slices.Insert(slices.Clone(rows), i, row), "\n")))
		for k := range i {
			changed := slices.Clone(rows)
			changed[i], changed[k] = changed[k], changed[i]
			other = append(other, fmt.Sprintf("ok %d\n%s", len(rows), strings.Join(changed, "\n")))
		}
		cells := strings.Split(row[2:], " ")
		for k, l := range [][]string{{"X", cells[0] + "X"}, {"0", "1", "2", "3", "4", "5", "-1"}, {"2024-01-01", "2024-12-31"}, {"open", "closed"}} {
			for _, w := range l {
				if w == cells[k] {
					continue
				}
				changed, row := slices.Clone(rows), slices.Clone(cells)
				row[k] = w
				changed[i] = "  " + strings.Join(row, " ")
				other = append(other, fmt.Sprintf("ok %d\n%s", len(rows), strings.Join(changed, "\n")))
			}
		}
	}
	w.asks(t, "accounts", fmt.Sprintf("ok %d\n%s", len(rows), strings.Join(rows, "\n")), 10, append(other, "ok 0")...)
	taken("post 2024-01-01 x A 1, B -1", "close 2024-01-01 A").asks(t, "accounts", "ok 0", 10, "ok 1\n  A 0 2024-01-01 open", "ok 2\n  A 0 2024-01-01 closed\n  B 0 2024-01-01 open")
}

// TestP20_1_Large: sums that do not fit: nothing wraps, and no answer tells them.
func TestP20_1_Large(t *testing.T) {
	most, least := "92233720368547758.07", "-92233720368547758.07"
	// One above what fits, the double, and what these would wrap round to; then back again.
	for _, x := range []struct {
		amounts []string
		told    string // own balance, if it fits
	}{
		{[]string{most}, most}, {[]string{least}, least}, {[]string{most, "0.01"}, ""}, {[]string{least, "-0.01"}, ""}, {[]string{least, "-0.02"}, ""}, {[]string{most, most}, ""}, {[]string{least, least}, ""}, {[]string{most, most, "0.02"}, ""}, {[]string{least, least, "-0.02"}, ""},
		{[]string{most, "0.01", "-0.01"}, most}, {[]string{least, "-0.01", "0.01"}, least}, {[]string{most, most, least}, most}, {[]string{most, most, most, least, least, least}, "0.00"}, {[]string{most, most, most, most, "0.04"}, ""}, {[]string{least, least, most, most, "-0.01"}, "-0.01"},
	} {
		var events []string
		for i, a := range x.amounts {
			events = append(events, fmt.Sprintf("post 2024-01-01 k%d A:B %s, C 1", i, a))
		}
		wrapped := []string{"0.00", "-0.01", "-0.02", "0.01", "0.02", "0.03", "-0.03", "-0.04", most, least, "92233720368547758.06"}
		wrapped = slices.DeleteFunc(wrapped, func(s string) bool { return s == x.told })
		w := taken(events...)
		for _, s := range wrapped {
			w.asks(t, "rollup A:B", "", 8, "ok "+s+" "+s)
			w.asks(t, "rollup A", "", 8, "ok 0.00 "+s)
			if s != "0.00" {
				w.asks(t, "daily A:B 2024-01-01 2024-01-01", "", 8, "ok 1\n  2024-01-01 "+s+" "+s)
			}
		}
		w.asks(t, "trial", "", 7, fmt.Sprintf("ok 2\n  A:B 0.00 0.00\n  C %d.00 0.00", len(events)), fmt.Sprintf("ok 2\n  A:B 0.00 0.05\n  C %d.00 0.00", len(events)), fmt.Sprintf("ok 2\n  A:B 0.05 0.00\n  C %d.00 0.00", len(events)))
		switch {
		case x.told == "" || x.told == "0.00":
			if x.told == "" {
				w.asks(t, "trial", "error 11", 7, fmt.Sprintf("ok 1\n  C %d.00 0.00", len(events)), "ok 0")
			}
		case x.told[0] == '-':
			w.asks(t, "trial", fmt.Sprintf("ok 2\n  A:B 0.00 %s\n  C %d.00 0.00", x.told[1:], len(events)), 7)
		default:
			w.asks(t, "trial", fmt.Sprintf("ok 2\n  A:B %s 0.00\n  C %d.00 0.00", x.told, len(events)), 7)
		}
		if x.told != "" {
			w.asks(t, "rollup A:B", "ok "+x.told+" "+x.told, 8)
			w.asks(t, "rollup A", "ok 0.00 "+x.told, 8)
		}
	}
	// A rollup of balances that fit each.
	taken("post 2024-01-01 a A "+most+", B 1", "post 2024-01-01 b A:B "+most+", B 1").asks(t, "rollup A", "error 11", 8, "ok "+most+" "+most, "ok "+most+" -0.02", "ok "+most+" 0.00")
	taken("post 2024-01-01 a A "+most+", B 1", "post 2024-01-01 b A:B "+least+", B 1").asks(t, "rollup A", "ok "+most+" 0.00", 8)
	taken("post 2024-01-01 a A:C "+most+", B 1", "post 2024-01-01 b A:B "+most+", B 1", "post 2024-01-01 c A:D "+least+", B 1").asks(t, "rollup A", "ok 0.00 "+most, 8)
	// A balance that fits on each day, and a change between that does not.
	taken("post 2024-01-01 a A "+least+", B 1", "post 2024-01-02 b A "+most+", B 1", "post 2024-01-02 c A "+most+", B 1").asks(t, "daily A 2024-01-01 2024-01-01", "ok 1\n  2024-01-01 "+least+" "+least, 8)
	taken("post 2024-01-01 a A "+least+", B 1", "post 2024-01-02 b A "+most+", B 1", "post 2024-01-02 c A "+most+", B 1").asks(t, "daily A 2024-01-01 2024-01-02", "error 11", 8, "ok 2\n  2024-01-01 "+least+" "+least+"\n  2024-01-02 -0.02 "+most)
	// Ages, and what is left.
	w := taken("invoice 2024-01-01 i A B due 2024-01-01 "+most, "invoice 2024-01-01 j A B due 2024-01-01 "+most, "pay 2024-01-01 p A B "+most, "allot 2024-01-02 x p q "+most, "allot 2024-01-02 y p q "+most, "allot 2024-01-02 z p q "+most, "allot 2024-01-03 v p i "+most, "allot 2024-01-04 w p i "+most)
	w.asks(t, "aged A 2024-01-01", "error 11", 9, "ok -0.02 0.00 0.00 0.00 0.00", "ok "+most+" 0.00 0.00 0.00 0.00", "ok 0.00 0.00 0.00 0.00 0.00")
	w.asks(t, "aged A 2024-01-03", "ok 0.00 "+most+" 0.00 0.00 0.00", 9)
	w.asks(t, "aged A 2024-01-04", "ok 0.00 0.00 0.00 0.00 0.00", 9)
	w.asks(t, "left i", "ok "+least, 9, "ok 0.00", "ok "+most)
	w.asks(t, "left p", "error 11", 9, "ok "+least, "ok 0.00", "ok 0.04", "ok 0.03", "ok "+most)
}

// TestWide: whole numbers of 128 bits against big ones.
func TestWide(t *testing.T) {
	r := source(9)
	of := func(a wide) *big.Int {
		n := new(big.Int).Lsh(big.NewInt(a.high), 64)
		return n.Add(n, new(big.Int).SetUint64(a.low))
	}
	numbers := []int64{0, 1, -1, 2, -2, api.MaxAmount, -api.MaxAmount, -api.MaxAmount - 1, 1 << 62, -1 << 62, 1<<32 - 1}
	for range 3000 {
		var a wide
		want := new(big.Int)
		for range r.IntN(40) {
			n := pick(r, append(numbers, r.Int64(), -r.Int64())...)
			if r.IntN(3) == 0 {
				a = a.minus(wideOf(n))
				want.Sub(want, big.NewInt(n))
			} else {
				a = a.plus(wideOf(n))
				want.Add(want, big.NewInt(n))
			}
			if of(a).Cmp(want) != 0 || a.isAboveZero() != (want.Sign() > 0) || a.isBelowZero() != (want.Sign() < 0) {
				t.Fatalf("%v, want %v", a, want)
			}
			if n, is := a.narrow(); is != want.IsInt64() || is && n != want.Int64() {
				t.Fatalf("%v: %d, %v", a, n, is)
			}
			if b := (wide{}).minus(a); of(b).Cmp(new(big.Int).Neg(want)) != 0 || a.plus(b) != (wide{}) {
				t.Fatalf("%v: %v", a, b)
			}
		}
	}
}
