package audit

import (
	"cmp"
	"fmt"
	"math/big"
	"regexp"
	"slices"
	"strconv"
	"strings"
	"testing"

	"daybook/api"
	"daybook/event"
	"daybook/paper"
	"daybook/script"
)

// The model is Check written a second time, by the document's words: every answer is looked at with what is learnt worked out anew from all answers ahead of it; sums are big numbers, and amounts are told as whole numbers of the smallest unit.

// item: a command with its answer.
type item struct {
	c     api.Command
	line  int    // in the trace
	first string // its first line behind the number
	rows  []string
}

func (it item) words() []string { return strings.Split(it.first, " ") }

func (it item) says(w string) bool { return it.words()[0] == w }

func (it item) fails(n int) bool { return strings.HasPrefix(it.first+" ", fmt.Sprintf("error %d ", n)) }

func (it item) num(i int) int { return atoi(it.words()[i]) }

func atoi(s string) int {
	n, err := strconv.Atoi(s)
	if err != nil {
		panic(s)
	}
	return n
}

// modelItems: the trace's answers, false if it is none of these commands.
func modelItems(commands []api.Command, trace string) ([]item, bool) {
	lines := strings.SplitAfter(trace, "\n")
	if last := len(lines) - 1; lines[last] != "" {
		return nil, false
	}
	var l []item
	for i, s := range lines[:len(lines)-1] {
		s = s[:len(s)-1]
		if s != "" && s[0] == ' ' {
			if l == nil {
				return nil, false
			}
			l[len(l)-1].rows = append(l[len(l)-1].rows, s)
			continue
		}
		number, rest, is := strings.Cut(s, " ")
		if !is || len(l) == len(commands) || number != fmt.Sprint(commands[len(l)].Line) {
			return nil, false
		}
		if first, _, _ := strings.Cut(rest, " "); first != "ok" && first != "error" && first != "closed" {
			return nil, false
		}
		l = append(l, item{c: commands[len(l)], line: i + 1, first: rest})
	}
	return l, len(l) == len(commands)
}

// shape: of a command's answers: the mark of chapter 19; the words behind ok; of a row; behind an error's number. N a number, W a word, A an amount, D a date, F a flag, S open or closed.
type shape struct{ mark, ok, row, err string }

var shapes = map[string]shape{
	"daybook": {"", "N", "none", ""}, "submit": {"L", "N", "none", ""}, "len": {"L", "N", "none", ""}, "event": {"L", "any", "none", ""},
	"trial": {"L", "N", "W A A", ""}, "rollup": {"L", "A A", "none", ""}, "daily": {"L", "N", "D A A", ""}, "aged": {"L", "A A A A A", "none", ""}, "open": {"L", "N", "W D D A", ""},
	"accounts": {"L", "N", "W N D S", ""}, "left": {"L", "A", "none", ""}, "query": {"L", "N N", "cells", " N"}, "export": {"L", "N", "quoted", ""}, "import": {"L", "N", "none", " N N N"}, "sheet": {"L", "N", "quoted", ""},
	"snapshot": {"L", "", "none", ""}, "trim": {"L", "N", "none", ""}, "rebuild": {"L", "N F N N", "none", ""}, "status": {"L", "N F N N F", "none", ""},
	"fuse": {"D", "", "none", ""}, "free": {"D", "N", "none", ""}, "files": {"D", "N", "W N N", ""}, "crash": {"D", "", "none", ""}, "reopen": {"D", "N", "none", ""}, "lose": {"D", "W", "none", ""}, "turn": {"D", "W", "none", ""},
}

var sorts = map[string]*regexp.Regexp{
	"N": regexp.MustCompile(`^(0|-?[1-9][0-9]{0,9})$`), "E": regexp.MustCompile(`^[1-9][0-9]{0,9}$`), "W": regexp.MustCompile(`^[!-~]+$`),
	"F": regexp.MustCompile(`^[01]$`), "S": regexp.MustCompile(`^(open|closed)$`), "D": regexp.MustCompile(`^[0-9]{4}-[0-9]{2}-[0-9]{2}$`),
}

var amounts = []*regexp.Regexp{
	regexp.MustCompile(`^(0|-?[1-9][0-9]*)$`), regexp.MustCompile(`^-?(0|[1-9][0-9]*)\.[0-9]{1}$`), regexp.MustCompile(`^-?(0|[1-9][0-9]*)\.[0-9]{2}$`), regexp.MustCompile(`^-?(0|[1-9][0-9]*)\.[0-9]{3}$`),
	regexp.MustCompile(`^-?(0|[1-9][0-9]*)\.[0-9]{4}$`), regexp.MustCompile(`^-?(0|[1-9][0-9]*)\.[0-9]{5}$`), regexp.MustCompile(`^-?(0|[1-9][0-9]*)\.[0-9]{6}$`),
}

// isDate: by the calendar.
func isDate(s string) bool {
	if !sorts["D"].MatchString(s) {
		return false
	}
	year, month, day := atoi(s[:4]), atoi(s[5:7]), atoi(s[8:])
	days := []int{0, 31, 28, 31, 30, 31, 30, 31, 31, 30, 31, 30, 31}
	if year%4 == 0 && (year%100 != 0 || year%400 == 0) {
		days[2] = 29
	}
	return year >= 1 && month >= 1 && month <= 12 && day >= 1 && day <= days[month]
}

// units: an amount's text as a whole number of units; empty, if it is none in its one form.
func units(s string, digits int) string {
	if digits < 0 || digits > 6 || !amounts[digits].MatchString(s) {
		return ""
	}
	n, _ := new(big.Int).SetString(strings.ReplaceAll(s, ".", ""), 10)
	if n.Sign() == 0 && s[0] == '-' || new(big.Int).Abs(n).Cmp(big.NewInt(api.MaxAmount)) > 0 {
		return ""
	}
	return n.String()
}

// amountText: units as an amount's text, whether it fits or not.
func amountText(n string, digits int) string {
	sign := ""
	if n[0] == '-' {
		sign, n = "-", n[1:]
	}
	for len(n) <= digits {
		n = "0" + n
	}
	if digits > 0 {
		n = n[:len(n)-digits] + "." + n[len(n)-digits:]
	}
	return sign + n
}

// cut: the words by their sorts, amounts as units; false, if one does not fit.
func cut(s, want string, digits int) ([]string, bool) {
	if want == "" {
		return nil, s == ""
	}
	words, wants := strings.Split(s, " "), strings.Split(want, " ")
	if len(words) != len(wants) {
		return nil, false
	}
	for i, w := range words {
		switch wants[i] {
		case "A":
			if words[i] = units(w, digits); words[i] == "" {
				return nil, false
			}
		case "D":
			if !isDate(w) {
				return nil, false
			}
		default:
			if !sorts[wants[i]].MatchString(w) {
				return nil, false
			}
		}
	}
	return words, true
}

// formed: whether an answer is of its form; of an ok also its words and its rows' words.
func formed(it item, digits int) (bool, []string, [][]string) {
	s := shapes[it.c.Word]
	switch it.words()[0] {
	case "closed":
		return it.first == "closed" && len(it.rows) == 0, nil, nil
	case "error":
		_, behind, _ := strings.Cut(it.first, " ")
		_, is := cut(behind, "E"+s.err, digits)
		return is && len(it.rows) == 0, nil, nil
	}
	if s.ok == "any" {
		return len(it.rows) == 0, nil, nil
	}
	behind, is := strings.CutPrefix(it.first, "ok ")
	if !is && it.first != "ok" || is && s.ok == "" {
		return false, nil, nil
	}
	if !is {
		behind = ""
	}
	words, is := cut(behind, s.ok, digits)
	if !is {
		return false, nil, nil
	}
	if s.row == "none" {
		return len(it.rows) == 0, words, nil
	}
	var rows [][]string
	for _, r := range it.rows {
		switch s.row {
		case "cells":
			is = strings.HasPrefix(r, "  ")
		case "quoted":
			is = strings.HasPrefix(r, " |")
		default:
			var row []string
			row, is = cut(strings.TrimPrefix(r, "  "), s.row, digits)
			is = is && strings.HasPrefix(r, "  ")
			rows = append(rows, row)
		}
		if !is {
			return false, nil, nil
		}
	}
	return words[0] == fmt.Sprint(len(it.rows)), words, rows
}

// learnt: what 20.2 tells.
type learnt struct {
	digits                   int
	disk, ledger, down, full bool
	events                   []api.Event
	pending                  []api.Event
	gen, at                  int
	asked                    map[string][]string // all answers since the last change
}

// parsed: what event.Parse and paper.Parse answer, kept as it is asked for over and over.
type parsed struct {
	l  []api.Event
	ok bool
}

var parses = map[string]parsed{}

func read(c api.Command, digits int) parsed {
	name := fmt.Sprint(c.Word, " ", digits, " ", c.Text)
	if p, is := parses[name]; is {
		return p
	}
	var p parsed
	if c.Word == "import" {
		l, err := paper.Parse(c.Text, digits)
		p = parsed{l, err == nil}
	} else {
		e, why := event.Parse(c.Text, digits)
		p = parsed{[]api.Event{e}, why == api.OK}
	}
	parses[name] = p
	return p
}

func takenBy(it item) int {
	if it.says("ok") {
		return it.num(1)
	}
	return it.num(2)
}

func asking(c api.Command) string {
	return c.Word + "\x00" + strings.Join(c.Args, "\x00") + "\x01" + c.Text
}

func asks(c api.Command) bool {
	return strings.Contains(" len event trial rollup daily aged open accounts left query export sheet ", " "+c.Word+" ")
}

// learn: from all answers of a beginning of the trace, which break no rule.
func learn(first api.Command, h []item) learnt {
	s := learnt{digits: atoi(first.Args[2])}
	capacity := atoi(first.Args[0])
	s.disk = capacity >= 0 && capacity <= 1<<20
	for _, it := range h {
		s.learn(it)
	}
	return s
}

// comes: the events that an answer puts behind the others; it must break no rule up to 5.
func (s *learnt) comes(it item) []api.Event {
	switch {
	case it.c.Word == "submit" && it.says("ok"):
		return read(it.c, s.digits).l
	case it.c.Word == "import" && !it.says("closed"):
		return read(it.c, s.digits).l[:takenBy(it)]
	case it.c.Word == "reopen" && it.says("ok") && it.num(1) == len(s.events)+1:
		return s.pending
	}
	return nil
}

func (s *learnt) learn(it item) {
	word, works := it.c.Word, shapes[it.c.Word].mark == "L" && s.ledger
	came := s.comes(it)
	s.events = append(slices.Clip(s.events), came...)
	firstDown := works && !s.down && it.fails(34)
	if firstDown {
		if word == "submit" && read(it.c, s.digits).ok {
			s.pending = read(it.c, s.digits).l
		}
		if l := read(it.c, s.digits).l; word == "import" && takenBy(it) < len(l) {
			s.pending = l[takenBy(it):][:1]
		}
	}
	if word == "rebuild" && works && it.says("error") && atoi(it.c.Args[0]) >= 1 && !s.down {
		s.at = 0
	}
	if (word == "rebuild" || word == "status") && it.says("ok") {
		s.gen, s.at = it.num(1), it.num(3)
	}
	if word == "submit" || word == "import" {
		s.full = s.full || it.fails(30)
	}
	if word == "trim" && it.says("ok") && it.num(1) > 0 {
		s.full = false
	}
	if len(came) > 0 || firstDown {
		s.asked = nil
	}
	s.down = s.down || firstDown
	if asks(it.c) && !it.says("closed") {
		if s.asked == nil {
			s.asked = map[string][]string{}
		}
		s.asked[asking(it.c)] = append(s.asked[asking(it.c)], it.first+"\n"+strings.Join(it.rows, "\n"))
	}
	switch {
	case (word == "daybook" || word == "reopen") && it.says("ok"):
		*s = learnt{digits: s.digits, disk: s.disk, ledger: true, events: s.events}
	case (word == "daybook" || word == "reopen") && it.says("error"), (word == "crash" || word == "lose" || word == "turn") && it.says("ok"):
		s.ledger = false
	}
}

// row: of the books.
type row struct {
	account string
	day     int
	amount  *big.Int
}

// rows: of all events.
func (s *learnt) rows() []row {
	var l []row
	for n, e := range s.events {
		add := func(name string, a int64, sign int64) {
			l = append(l, row{name, e.Day, new(big.Int).Mul(big.NewInt(a), big.NewInt(sign))})
		}
		switch e.Kind {
		case api.KPost:
			for _, x := range e.Lines {
				add(x.Account, x.Amount, 1)
			}
		case api.KVoid:
			for _, p := range s.events[:n] {
				if p.Kind == api.KPost && p.Key == e.Ref {
					for _, x := range p.Lines {
						add(x.Account, x.Amount, -1)
					}
					break
				}
			}
		case api.KInvoice:
			add(e.Account, e.Amount, 1)
			add(e.Other, e.Amount, -1)
		case api.KPay:
			add(e.Other, e.Amount, 1)
			add(e.Account, e.Amount, -1)
		}
	}
	return l
}

// sum: of the rows that a test lets through.
func (s *learnt) sum(is func(row) bool) *big.Int {
	n := new(big.Int)
	for _, r := range s.rows() {
		if is(r) {
			n.Add(n, r.amount)
		}
	}
	return n
}

func dateText(n int) string {
	year := 1
	leap := func() bool { return year%4 == 0 && (year%100 != 0 || year%400 == 0) }
	for {
		days := 365
		if leap() {
			days = 366
		}
		if n <= days {
			break
		}
		n, year = n-days, year+1
	}
	for month, days := range []int{31, 28, 31, 30, 31, 30, 31, 31, 30, 31, 30, 31} {
		if month == 1 && leap() {
			days++
		}
		if n <= days {
			return fmt.Sprintf("%04d-%02d-%02d", year, month+1, n)
		}
		n -= days
	}
	panic("no day")
}

func dayNumber(s string) int {
	n := sortedDay[s]
	for i := 1; n == 0 && i <= api.MaxDay; i++ {
		if dateText(i) == s {
			n = i
		}
	}
	sortedDay[s] = n
	return n
}

// sortedDay: of the dates that were asked for; those of some years around the ones that the tests live in are laid in at once.
var sortedDay = func() map[string]int {
	m := map[string]int{"0001-01-01": 1, "9999-12-31": api.MaxDay}
	for i := 738886 - 1000; i < 738886+2000; i++ {
		m[dateText(i)] = i
	}
	return m
}()

// report: what a question's ok must tell: its words, and its rows; nil, if nothing can be told. Of those that hang on more than the events: false.
func (s *learnt) report(c api.Command) (words []string, rows [][]string, is bool) {
	counted := func(rows [][]string) ([]string, [][]string, bool) {
		return []string{fmt.Sprint(len(rows))}, rows, true
	}
	switch c.Word {
	case "len":
		return []string{fmt.Sprint(len(s.events))}, nil, true
	case "trial":
		return counted(s.trial())
	case "rollup":
		own := s.sum(func(r row) bool { return r.account == c.Args[0] })
		all := s.sum(func(r row) bool { return strings.HasPrefix(r.account+":", c.Args[0]+":") })
		return []string{own.String(), all.String()}, nil, true
	case "daily":
		return counted(s.daily(c.Args[0], c.Args[1], c.Args[2]))
	case "aged":
		return s.aged(c.Args[0], dayNumber(c.Args[1])), nil, true
	case "open":
		return counted(s.open(c.Args[0], dayNumber(c.Args[1])))
	case "left":
		return s.left(c.Args[0]), nil, true
	case "accounts":
		return counted(s.accounts())
	}
	return nil, nil, false
}

func (s *learnt) trial() [][]string {
	var names []string
	for _, r := range s.rows() {
		names = append(names, r.account)
	}
	slices.Sort(names)
	var l [][]string
	for _, name := range slices.Compact(names) {
		own := s.sum(func(r row) bool { return r.account == name })
		switch own.Sign() {
		case 1:
			l = append(l, []string{name, own.String(), "0"})
		case -1:
			l = append(l, []string{name, "0", own.Neg(own).String()})
		}
	}
	return l
}

func (s *learnt) daily(name, from, to string) [][]string {
	var days []int
	for _, r := range s.rows() {
		if date := dateText(r.day); r.account == name && date >= from && date <= to {
			days = append(days, r.day)
		}
	}
	slices.Sort(days)
	var l [][]string
	for _, d := range slices.Compact(days) {
		change := s.sum(func(r row) bool { return r.account == name && r.day == d })
		balance := s.sum(func(r row) bool { return r.account == name && r.day <= d })
		if change.Sign() != 0 {
			l = append(l, []string{dateText(d), change.String(), balance.String()})
		}
	}
	return l
}

// openAt: an invoice's.
func (s *learnt) openAt(i api.Event, t int) *big.Int {
	n := big.NewInt(i.Amount)
	for _, a := range s.events {
		if a.Kind == api.KAllot && a.Ref2 == i.Key && a.Day <= t {
			n.Sub(n, big.NewInt(a.Amount))
		}
	}
	return n
}

func (s *learnt) invoices(name string, t int) []api.Event {
	var l []api.Event
	for _, e := range s.events {
		if e.Kind == api.KInvoice && e.Account == name && e.Day <= t {
			l = append(l, e)
		}
	}
	return l
}

func (s *learnt) aged(name string, t int) []string {
	var words []string
	for age := range 5 {
		n := new(big.Int)
		for _, i := range s.invoices(name, t) {
			late, of := t-i.Due, 4
			switch {
			case late <= 0:
				of = 0
			case late <= 30:
				of = 1
			case late <= 60:
				of = 2
			case late <= 90:
				of = 3
			}
			if of == age {
				n.Add(n, s.openAt(i, t))
			}
		}
		words = append(words, n.String())
	}
	return words
}

func (s *learnt) open(name string, t int) [][]string {
	l := s.invoices(name, t)
	slices.SortFunc(l, func(a, b api.Event) int {
		return cmp.Or(a.Due-b.Due, a.Day-b.Day, strings.Compare(a.Key, b.Key))
	})
	var rows [][]string
	for _, i := range l {
		if n := s.openAt(i, t); n.Sign() > 0 {
			rows = append(rows, []string{i.Key, dateText(i.Day), dateText(i.Due), n.String()})
		}
	}
	return rows
}

func (s *learnt) left(key string) []string {
	for _, e := range s.events {
		if e.Key != key || e.Kind != api.KInvoice && e.Kind != api.KPay {
			continue
		}
		n := big.NewInt(e.Amount)
		for _, a := range s.events {
			if a.Kind == api.KAllot && (a.Ref == key || a.Ref2 == key) {
				n.Sub(n, big.NewInt(a.Amount))
			}
		}
		return []string{n.String()}
	}
	return nil
}

// opening: the first one of an account.
func (s *learnt) opening(name string) (api.Event, bool) {
	i := slices.IndexFunc(s.events, func(e api.Event) bool { return e.Kind == api.KOpen && e.Account == name })
	if i < 0 {
		return api.Event{}, false
	}
	return s.events[i], true
}

func (s *learnt) accounts() [][]string {
	var names []string
	for _, e := range s.events {
		if e.Kind == api.KOpen {
			names = append(names, e.Account)
		}
	}
	slices.Sort(names)
	var l [][]string
	for _, name := range slices.Compact(names) {
		e, _ := s.opening(name)
		root, _ := s.opening(strings.Split(name, ":")[0])
		stand := "open"
		if slices.ContainsFunc(s.events, func(e api.Event) bool { return e.Kind == api.KClose && e.Account == name }) {
			stand = "closed"
		}
		l = append(l, []string{name, fmt.Sprint(root.Type), dateText(e.Day), stand})
	}
	return l
}

// breaks: which rules an answer breaks, each looked at by itself (if it is the first, no other).
func (s *learnt) breaks(it item) (broken [14]bool) {
	is, words, rows := formed(it, s.digits)
	if !is {
		broken[1] = true
		return broken
	}
	word, ok := it.c.Word, it.says("ok")
	switch there := map[string]bool{"L": s.ledger, "D": s.disk}; shapes[word].mark {
	case "":
		broken[2] = it.says("closed") || !s.disk && it.first != "error 1"
	default:
		broken[2] = it.says("closed") == there[shapes[word].mark]
	}
	broken[3] = s.breaks3(it)
	broken[4] = ok && (word == "daybook" && it.num(1) != 0 || word == "reopen" && it.num(1) != len(s.events) && (len(s.pending) == 0 || it.num(1) != len(s.events)+1))
	if word == "event" {
		n := atoi(it.c.Args[0])
		in := n >= 1 && n <= len(s.events)
		broken[5] = it.fails(41) && in || ok && !in
		if ok && in {
			line, _ := event.Print(s.events[n-1], s.digits)
			broken[5] = it.first != "ok "+line
		}
	}
	if !broken[3] && !broken[4] {
		broken[6] = s.breaks6(it)
	}
	if of := map[string]int{"trial": 7, "rollup": 8, "daily": 8, "aged": 9, "open": 9, "left": 9, "accounts": 10}[word]; ok && of > 0 {
		wantWords, wantRows, _ := s.report(it.c)
		broken[of] = wantWords == nil || !slices.Equal(words, wantWords) || !slices.EqualFunc(rows, wantRows, slices.Equal)
	}
	if asks(it.c) && !it.says("closed") && !it.fails(34) {
		for _, a := range s.asked[asking(it.c)] {
			broken[11] = broken[11] || a != it.first+"\n"+strings.Join(it.rows, "\n")
		}
	}
	broken[12] = ok && s.breaks12(it)
	if s.ledger && s.down {
		broken[13] = shapes[word].mark == "L" && word != "len" && word != "status" && !it.fails(34)
	} else if s.ledger && s.full && (word == "submit" || word == "import") {
		broken[13] = ok || it.says("error") && !it.fails(180) && !it.fails(34)
	}
	return broken
}

func (s *learnt) breaks3(it item) bool {
	ok := it.says("ok")
	switch p := read(it.c, s.digits); it.c.Word {
	case "submit":
		return ok && (!p.ok || it.num(1) != len(s.events)+1)
	case "len":
		return ok && it.num(1) != len(s.events)
	case "import":
		return !it.says("closed") && (takenBy(it) < 0 || takenBy(it) > len(p.l) || ok && (!p.ok || len(p.l) > takenBy(it)))
	}
	return false
}

func (s *learnt) breaks6(it item) bool {
	keys := map[string]bool{}
	for _, e := range s.events {
		keys[e.Key] = true
	}
	for _, e := range s.comes(it) {
		if e.Key != "" && keys[e.Key] {
			return true
		}
		keys[e.Key] = true
	}
	return false
}

func (s *learnt) breaks12(it item) bool {
	if it.c.Word != "rebuild" && it.c.Word != "status" {
		return false
	}
	g, b, a, o := it.num(1), it.num(2), it.num(3), it.num(4)
	if o != len(s.events) {
		return true
	}
	if it.c.Word == "status" {
		return !(g == s.gen && a == s.at && (b == 1) == (s.at > 0) && !(s.full && it.num(5) != 1))
	}
	cutOver := b == 0 && a == 0 && g == s.gen+1
	goesOn := b == 1 && g == s.gen && a > s.at && a <= o && a-s.at <= atoi(it.c.Args[0])
	return !cutOver && !goesOn
}

// modelCheck: what Check answers; and all rules that the broken answer breaks.
func modelCheck(in, trace string) (int, int, api.Errno, [14]bool) {
	commands, err := script.Parse(in)
	if err != nil {
		return 0, 0, api.ErrScript, [14]bool{}
	}
	items, is := modelItems(commands, trace)
	if !is {
		return 0, 0, api.ErrTrace, [14]bool{}
	}
	s := learn(commands[0], nil)
	for _, it := range items {
		broken := s.breaks(it)
		if rule := slices.Index(broken[:], true); rule > 0 {
			return rule, it.line, api.OK, broken
		}
		s.learn(it)
	}
	return 0, 0, api.OK, [14]bool{}
}

// short: a text, but no more of it than can be looked at.
func short(s string) string {
	if len(s) > 3000 {
		return fmt.Sprintf("%s.. (%d bytes)", s[:3000], len(s))
	}
	return s
}

// checks: Check of the two texts must be this.
func checks(t *testing.T, in, trace string, rule, line int, why api.Errno) {
	t.Helper()
	if r, l, e := Check(in, trace); r != rule || l != line || e != why {
		t.Fatalf("%s\n%s\n%d, %d, %v, want %d, %d, %v", short(in), short(trace), r, l, e, rule, line, why)
	}
}

// checksAlike: Check of the two texts must be the model's; the rules that the model tells of the answer that it tells.
func checksAlike(t *testing.T, in, trace string) [14]bool {
	t.Helper()
	rule, line, why, broken := modelCheck(in, trace)
	checks(t, in, trace, rule, line, why)
	return broken
}
