package audit

import (
	"fmt"
	"math/rand/v2"
	"slices"
	"strings"
	"testing"

	"daybook/api"
	"daybook/event"
	"daybook/script"
)

// A liar answers scripts without any ledger: it takes events that no books take, lets the power fail when it likes, and else tells what follows from what it has told. So traces come about that no ledger gives and that break no rule, with events out of all order.
type liar struct {
	r *rand.Rand
	s learnt
}

// told: units as amounts.
func (l *liar) told(words []string, wants string) ([]string, bool) {
	words = slices.Clone(words)
	for i, sort := range strings.Split(wants, " ") {
		if sort == "A" {
			words[i] = amountText(words[i], l.s.digits)
			if units(words[i], l.s.digits) == "" {
				return nil, false
			}
		}
	}
	return words, true
}

// report: what follows; false, if that can't be told.
func (l *liar) report(c api.Command) (string, []string, bool) {
	words, rows, _ := l.s.report(c)
	if words == nil {
		return "", nil, false
	}
	words, is := l.told(words, shapes[c.Word].ok)
	var lines []string
	for _, row := range rows {
		told, fits := l.told(row, shapes[c.Word].row)
		is = is && fits
		lines = append(lines, "  "+strings.Join(told, " "))
	}
	return "ok " + strings.Join(words, " "), lines, is
}

func (l *liar) failure(c api.Command) string {
	s := fmt.Sprintf("error %d", pick(l.r, 1, 2, 41, 50, 61, 70, 73, 999, 9999999999))
	if c.Word == "event" && strings.HasPrefix(s, "error 41") {
		s = "error 40"
	}
	switch c.Word {
	case "query":
		s += fmt.Sprintf(" %d", l.r.IntN(99)-9)
	case "import":
		s += fmt.Sprintf(" %d %d %d", l.r.IntN(len(read(c, l.s.digits).l)+1), l.r.IntN(5), l.r.IntN(5))
	}
	return s
}

// fresh: whether by an event that comes no key is used twice.
func (l *liar) fresh(events []api.Event) bool {
	keys := map[string]int{}
	for _, e := range append(slices.Clone(l.s.events), events...) {
		if keys[e.Key]++; e.Key != "" && keys[e.Key] > 1 {
			return false
		}
	}
	return true
}

func (l *liar) down(c api.Command) string {
	switch c.Word {
	case "query":
		return "error 34 0"
	case "import":
		events := read(c, l.s.digits).l
		n := l.r.IntN(len(events) + 1)
		if !l.fresh(events[:n]) {
			n = 0
		}
		return fmt.Sprintf("error 34 %d 0 0", n)
	}
	return "error 34"
}

// answer: one that breaks no rule.
func (l *liar) answer(c api.Command) (string, []string) {
	mark, n := shapes[c.Word].mark, len(l.s.events)
	switch {
	case mark == "" && !l.s.disk:
		return "error 1", nil
	case mark == "":
		return pick(l.r, "ok 0", "ok 0", "ok 0", "ok 0", "error 30"), nil
	case mark == "D" && !l.s.disk || mark == "L" && !l.s.ledger:
		return "closed", nil
	case mark == "L" && l.s.down && c.Word != "len" && c.Word != "status", mark == "L" && l.r.IntN(60) == 0:
		return l.down(c), nil
	}
	if before := l.s.asked[asking(c)]; len(before) > 0 {
		lines := strings.Split(before[len(before)-1], "\n")
		if rows := lines[1:]; rows[0] != "" {
			return lines[0], rows
		}
		return lines[0], nil
	}
	if mark == "L" && l.r.IntN(14) == 0 && !(l.s.full && (c.Word == "submit" || c.Word == "import")) {
		if s := l.failure(c); c.Word != "import" || l.fresh(read(c, l.s.digits).l) {
			return s, nil
		}
	}
	switch c.Word {
	case "submit", "import":
		return l.take(c), nil
	case "event":
		if i := atoi(c.Args[0]); i >= 1 && i <= n {
			s, _ := event.Print(l.s.events[i-1], l.s.digits)
			return "ok " + s, nil
		}
		return "error 41", nil
	case "rebuild":
		return l.rebuild(atoi(c.Args[0])), nil
	case "status":
		return fmt.Sprintf("ok %d %d %d %d %d", l.s.gen, min(l.s.at, 1), l.s.at, n, pick(l.r, 1, map[bool]int{true: 1}[l.s.full])), nil
	case "query":
		return "ok 2 1", []string{"  " + pick(l.r, "x", "", "  y"), "  1"}
	case "export", "sheet":
		return "ok 2", []string{" |" + pick(l.r, "x", "", " y\x80"), " |1"}
	case "files":
		return "ok 1", []string{"  log 5 5"}
	case "free":
		return fmt.Sprintf("ok %d", l.r.IntN(9)-3), nil
	case "snapshot", "fuse", "crash":
		return pick(l.r, "ok", "ok", "ok", "error 34", "error 30"), nil
	case "trim":
		return fmt.Sprintf("ok %d", l.r.IntN(3)-1), nil
	case "lose", "turn":
		return pick(l.r, "ok x", "error 31", "error 34"), nil
	case "reopen":
		return pick(l.r, fmt.Sprintf("ok %d", n), fmt.Sprintf("ok %d", n+len(l.freshPending())), fmt.Sprintf("ok %d", n+len(l.freshPending())), "error 34"), nil
	}
	first, rows, is := l.report(c)
	if !is {
		return "error 11", nil
	}
	return first, rows
}

func (l *liar) freshPending() []api.Event {
	if l.fresh(l.s.pending) {
		return l.s.pending
	}
	return nil
}

// take: an event that can be is nearly always taken, whatever the books say.
func (l *liar) take(c api.Command) string {
	p, behind := read(c, l.s.digits), ""
	if c.Word == "import" {
		behind = " 0 0 0"
	}
	switch {
	case l.s.full:
		return "error 180" + behind
	case l.r.IntN(15) == 0:
		return "error 30" + behind
	case !p.ok || !l.fresh(p.l):
		return "error 50" + behind
	case c.Word == "submit":
		return fmt.Sprintf("ok %d", len(l.s.events)+1)
	}
	return fmt.Sprintf("ok %d", len(p.l))
}

func (l *liar) rebuild(k int) string {
	n := len(l.s.events)
	if k < 1 || l.s.at == n || l.r.IntN(4) == 0 {
		return fmt.Sprintf("ok %d 0 0 %d", l.s.gen+1, n)
	}
	return fmt.Sprintf("ok %d 1 %d %d", l.s.gen, l.s.at+1+l.r.IntN(min(k, n-l.s.at)), n)
}

// wildEvent: one that can be; what it speaks of need not be there.
func wildEvent(r *rand.Rand, digits int) string {
	day := d + r.IntN(120)
	key := func() string {
		return pick(r, "a", "b", "c", "d", "e", "f") + pick(r, "", "1", "2", "3", "4", "5", "6", "7", "8", "9")
	}
	name := func() string { return pick(r, "A", "A:B", "A:B:C", "A:C", "AB", "B", "B:A", "A-", "A:B-C") }
	n := 1 + r.Int64N(300)
	if r.IntN(5) == 0 {
		n = pick[int64](r, api.MaxAmount, api.MaxAmount-1, api.MaxAmount/2+1)
	}
	e := api.Event{Kind: 1 + r.IntN(8), Day: day}
	switch e.Kind {
	case api.KOpen:
		if e.Account = name(); !strings.Contains(e.Account, ":") {
			e.Type = 1 + r.IntN(5)
		}
	case api.KClose:
		e.Account = name()
	case api.KPost:
		e.Key = key()
		for range 2 + r.IntN(3) {
			e.Lines = append(e.Lines, line(name(), pick(r, n, -n)))
		}
	case api.KVoid:
		e.Key, e.Ref = key(), key()
	case api.KInvoice:
		e.Key, e.Account, e.Other, e.Amount, e.Due = key(), pick(r, "A", "B"), name()+":X", n, day+r.IntN(40)
	case api.KPay:
		e.Key, e.Account, e.Other, e.Amount = key(), pick(r, "A", "B"), name()+":X", n
	case api.KAllot:
		e.Key, e.Ref, e.Ref2, e.Amount = key(), key(), key(), n
	}
	s, why := event.Print(e, digits)
	if why != api.OK {
		panic(s)
	}
	return s
}

// wildScript: of all commands, with wild events.
func wildScript(r *rand.Rand, pieces int) string {
	digits := pick(r, 0, 1, 2, 6)
	date := func() string { return dateText(d + r.IntN(260) - 20) }
	name := func() string { return pick(r, "A", "A:B", "B", "AB", "A:B:X", "x", "A:") }
	l := []string{fmt.Sprintf("daybook %d 64 %d", pick(r, 0, 1<<20, 100, 100, 100, 100), digits)}
	if r.IntN(30) == 0 {
		l[0] = pick(r, "daybook -1 64 2", "daybook 1048577 64 2", "daybook 100 64 7")
	}
	for range pieces {
		switch r.IntN(22) {
		default:
			l = append(l, "submit "+wildEvent(r, digits))
		case 8:
			l = append(l, "import", wildEvent(r, digits), wildEvent(r, digits), pick(r, "", wildEvent(r, digits), "x", "; y"), "end")
		case 9:
			l = append(l, "daily "+name()+" "+date()+" "+date(), "daily "+name()+" 2024-01-01 9999-12-31")
		case 10:
			l = append(l, "trial", "rollup "+name())
		case 11:
			l = append(l, "aged "+name()+" "+date(), "open "+name()+" "+date())
		case 12:
			l = append(l, fmt.Sprintf("left %s%d", pick(r, "a", "b", "c", "d", "e", "f"), r.IntN(10)), "left a", "left b")
		case 13:
			l = append(l, "accounts", fmt.Sprintf("event %d", r.IntN(12)))
		case 14:
			l = append(l, pick(r, "query show count", "export", "sheet trial", "query x"))
		case 15:
			l = append(l, fmt.Sprintf("rebuild %d", r.IntN(6)-1), "status")
		case 16:
			l = append(l, pick(r, "snapshot", "trim 0", "fuse 1", "free", "files"))
		case 17:
			l = append(l, pick(r, "crash 1", "lose 0", "turn 0 0 1", "reopen"), pick(r, "len", "reopen"), "reopen")
		case 18:
			l = append(l, "len", "status")
		}
	}
	return text(l...)
}

// lie: a trace of a script that breaks no rule.
func lie(r *rand.Rand, in string) string {
	commands, err := script.Parse(in)
	if err != nil {
		panic(err)
	}
	l := &liar{r: r, s: learn(commands[0], nil)}
	var b strings.Builder
	for _, c := range commands {
		first, rows := l.answer(c)
		fmt.Fprintf(&b, "%d %s\n", c.Line, first)
		for _, row := range rows {
			b.WriteString(row + "\n")
		}
		l.s.learn(item{c: c, first: first, rows: rows})
	}
	return b.String()
}

// TestP20_1_Lies: no rule is broken by what follows from answers that no ledger gives.
func TestP20_1_Lies(t *testing.T) {
	r := source(1)
	for range 1500 {
		in := wildScript(r, 5+r.IntN(60))
		trace := lie(r, in)
		checks(t, in, trace, 0, 0, api.OK)
		checksAlike(t, in, trace)
	}
}

// spoilt: a trace with something in it that is otherwise: a word, a row, an answer.
func spoilt(r *rand.Rand, commands []api.Command, trace string, digits int) string {
	items, _ := modelItems(commands, trace)
	i := r.IntN(len(items))
	it := &items[i]
	it.rows = slices.Clone(it.rows)
	switch n := r.IntN(12); {
	case n < 4:
		it.first = spoiltWord(r, it.first, 0, digits)
	case n < 7 && len(it.rows) > 0:
		k := r.IntN(len(it.rows))
		it.rows[k] = spoiltWord(r, it.rows[k], 2, digits)
	case n == 7 && len(it.rows) > 0:
		k := r.IntN(len(it.rows))
		it.rows = slices.Delete(it.rows, k, k+1)
		it.recount(r)
	case n == 8 && len(it.rows) > 0:
		k := r.IntN(len(it.rows))
		it.rows = slices.Insert(it.rows, k, it.rows[k])
		it.recount(r)
	case n == 9 && len(it.rows) > 1:
		k := r.IntN(len(it.rows) - 1)
		it.rows[k], it.rows[k+1] = it.rows[k+1], it.rows[k]
	case n == 10:
		for _, k := range r.Perm(len(items)) {
			if k != i && items[k].c.Word == it.c.Word {
				it.first, it.rows = items[k].first, items[k].rows
				break
			}
		}
	case n == 11 && r.IntN(4) == 0:
		it.rows = append(it.rows, pick(r, "  ", " |", " ", "  A 0.00 0.00", " | x", "  log 1 1"))
		it.recount(r)
	case n == 11 && r.IntN(3) == 0:
		it.first, it.rows = pick(r, "closed", "ok", "ok 0", "error 1", "error 34", "error 34 0", "error 34 0 0 0", "error", "closed 1", "error 0"), nil
	default:
		it.first, it.rows = anyAnswer(r, it.c, digits)
	}
	return written(items)
}

// anyAnswer: one of the command's form.
func anyAnswer(r *rand.Rand, c api.Command, digits int) (string, []string) {
	filled := func(sorts string) string {
		if sorts == "" {
			return ""
		}
		words := strings.Split(sorts, " ")
		for i, sort := range words {
			switch sort {
			case "A":
				words[i] = amountText(fmt.Sprint(r.IntN(300)*r.IntN(2)), max(digits, 0))
			case "D":
				words[i] = dateText(d + r.IntN(100))
			case "S":
				words[i] = pick(r, "open", "closed")
			case "W":
				words[i] = pick(r, "A", "B", "A:B", "a1", "b2", ann)
			case "F":
				words[i] = fmt.Sprint(r.IntN(2))
			default:
				words[i] = fmt.Sprint(r.IntN(6) - 1)
			}
		}
		return " " + strings.Join(words, " ")
	}
	shape := shapes[c.Word]
	switch r.IntN(6) {
	case 0:
		return "closed", nil
	case 1, 2:
		return fmt.Sprintf("error %d", pick(r, 1, 30, 34, 34, 41, 180)) + filled(strings.TrimPrefix(shape.err, " ")), nil
	}
	if shape.ok == "any" {
		return pick(r, "ok", "ok ", "ok x", "ok lock 2024-01-01"), nil
	}
	if shape.row == "none" {
		return "ok" + filled(shape.ok), nil
	}
	var rows []string
	for range r.IntN(3) {
		switch shape.row {
		case "cells":
			rows = append(rows, "  "+pick(r, "x", "", " 1"))
		case "quoted":
			rows = append(rows, " |"+pick(r, "x", "", " 1"))
		default:
			rows = append(rows, " "+filled(shape.row))
		}
	}
	first := fmt.Sprintf("ok %d", len(rows))
	if c.Word == "query" {
		first += " 1"
	}
	return first, rows
}

// taking: a trace in which an event that was refused is taken.
func taking(r *rand.Rand, commands []api.Command, trace string) string {
	items, _ := modelItems(commands, trace)
	for _, i := range r.Perm(len(items)) {
		it := &items[i]
		s := learn(commands[0], items[:i])
		p := read(it.c, s.digits)
		switch {
		case !it.says("error"):
			continue
		case it.c.Word == "submit" && p.ok:
			it.first = fmt.Sprintf("ok %d", len(s.events)+1)
		case it.c.Word == "import" && p.ok:
			it.first = fmt.Sprintf("ok %d", len(p.l))
		case it.c.Word == "reopen":
			it.first = fmt.Sprintf("ok %d", len(s.events)+len(s.pending))
		default:
			continue
		}
		break
	}
	return written(items)
}

// recount: mostly the count goes with the rows.
func (it *item) recount(r *rand.Rand) {
	words := it.words()
	if len(words) > 1 && r.IntN(6) > 0 {
		words[1] = fmt.Sprint(len(it.rows))
		it.first = strings.Join(words, " ")
	}
}

func written(items []item) string {
	var b strings.Builder
	for _, it := range items {
		fmt.Fprintf(&b, "%d %s\n", it.c.Line, it.first)
		for _, row := range it.rows {
			b.WriteString(row + "\n")
		}
	}
	return b.String()
}

// spoiltWord: one of the words behind so many is another one.
func spoiltWord(r *rand.Rand, s string, from, digits int) string {
	words := strings.Split(s, " ")
	if from >= len(words) {
		return s
	}
	i := from + r.IntN(len(words)-from)
	if i == 0 && r.IntN(8) > 0 {
		i = min(1, len(words)-1)
	}
	w := words[i]
	n := units(w, digits)
	switch {
	case r.IntN(20) == 0:
		words = slices.Insert(words, i, w)
	case r.IntN(20) == 0 && i > 0:
		words = slices.Delete(words, i, i+1)
	case r.IntN(14) == 0 && i > 0:
		words[i] = pick(r, "-0", "007", "+1", "x", "", "-1", "9999999999", "10000000000", "1.", "0.00", "-0.00", "1", "2024-02-30", "closed", "open")
	case sorts["N"].MatchString(w):
		words[i] = fmt.Sprint(atoi(w) + pick(r, -2, -1, 1, 2))
	case isDate(w):
		words[i] = dateText(max(1, dayNumber(w)-1))
	case n != "" && len(n) < 18:
		words[i] = amountText(fmt.Sprint(atoi(n)+pick(r, -100, -1, 1, 100)), digits)
	case i == 0:
		words[i] = pick(r, "ok", "error", "closed")
	case w == "open" || w == "closed":
		words[i] = pick(r, "open", "closed", "Open")
	default:
		words[i] = pick(r, w+"x", "A", w[:len(w)/2], "B", "a")
	}
	return strings.Join(words, " ")
}

// TestP20_1_Spoilt: traces, of ledgers and of liars, in which some things are otherwise; and each pair of rules that one answer can break is met.
func TestP20_1_Spoilt(t *testing.T) {
	r := source(3)
	met := map[string]int{}
	for n := range 1000 {
		in := wildScript(r, 5+r.IntN(50))
		trace := ""
		if n%3 == 0 {
			in, trace = right(t, r, 10+r.IntN(40))
		} else {
			trace = lie(r, in)
		}
		commands, _ := script.Parse(in)
		for range 12 {
			changed := trace
			if r.IntN(4) == 0 {
				changed = taking(r, commands, changed)
			}
			for range r.IntN(4) {
				changed = spoilt(r, commands, changed, atoi(commands[0].Args[2]))
			}
			broken := checksAlike(t, in, changed)
			rule := slices.Index(broken[:], true)
			met[fmt.Sprint(rule)]++
			for other := rule + 1; rule > 0 && other < len(broken); other++ {
				if broken[other] {
					met[fmt.Sprint(rule, " ahead of ", other)]++
				}
			}
		}
	}
	for _, want := range []string{"-1", "1", "2", "3", "4", "5", "6", "7", "8", "9", "10", "11", "12", "13", "2 ahead of 3", "2 ahead of 5", "2 ahead of 13", "3 ahead of 11", "3 ahead of 13", "5 ahead of 11", "7 ahead of 11", "8 ahead of 11", "9 ahead of 11", "10 ahead of 11", "6 ahead of 13", "11 ahead of 13", "12 ahead of 13"} {
		if met[want] == 0 {
			t.Errorf("no trace has %s", want)
		}
	}
}
