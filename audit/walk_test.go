package audit

import (
	"fmt"
	"math/rand/v2"
	"strconv"
	"strings"
	"testing"

	"daybook/api"
	"daybook/book"
	"daybook/event"
	"daybook/script"
)

const (
	d    = 738886 // 2024-01-01
	bank = "Assets:Bank"
	cust = "Assets:Cust"
	ann  = "Assets:Cust:Ann"
	work = "Income:Work"
)

// source gives the same numbers in every run.
func source(n uint64) *rand.Rand { return rand.New(rand.NewPCG(20, n)) }

func pick[T any](r *rand.Rand, from ...T) T { return from[r.IntN(len(from))] }

// text: lines, a byte 10 behind each.
func text(l ...string) string {
	if len(l) == 0 {
		return ""
	}
	return strings.Join(l, "\n") + "\n"
}

// traceOf: a script's trace; it must have no fault.
func traceOf(t *testing.T, in string) string {
	t.Helper()
	trace, err := script.Run(in)
	if err != nil {
		t.Fatalf("%s: %v", short(in), err)
	}
	return trace
}

func line(name string, n int64) api.Line { return api.Line{Account: name, Amount: n} }

// first: the lines of accounts of all that the walks go on.
func first() []string {
	return []string{"open 2024-01-01 Assets asset", "open 2024-01-01 Assets:Bank", "open 2024-01-01 Assets:Cust", "open 2024-01-01 Assets:Cust:Ann", "open 2024-01-01 Income income", "open 2024-01-01 Income:Work", "open 2024-01-01 Costs expense", "open 2024-01-01 Debt liability", "open 2024-01-01 Own equity"}
}

// maker makes scripts' lines; it keeps books of its own, so that what it submits is mostly taken.
type maker struct {
	r      *rand.Rand
	digits int
	books  *book.Book
	n      int
}

func newMaker(r *rand.Rand, digits int) *maker {
	return &maker{r: r, digits: digits, books: book.New()}
}

func (m *maker) keyOf(l []api.Claim) string {
	if len(l) == 0 || m.r.IntN(9) == 0 {
		return "k" + strconv.Itoa(m.r.IntN(99))
	}
	return l[m.r.IntN(len(l))].Key
}

// event: of any kind; the maker's books take more than every second one.
func (m *maker) event() api.Event {
	r, b := m.r, m.books.Base()
	m.n++
	day, key := max(b.Lock, d)+r.IntN(60)-3, pick(r, "i", "p", "x.", "k_", "-")+strconv.Itoa(m.n)
	if r.IntN(12) == 0 && len(b.Keys) > 0 {
		key = pick(r, b.Keys...)
	}
	name := func() string { return pick(r, bank, cust, ann, ann, "Costs", work, "Debt", "Own", "Other") }
	asset := func() string { return pick(r, bank, cust, ann, ann, "Assets", work) }
	n := 1 + r.Int64N(5000)
	if r.IntN(60) == 0 {
		n = 1 + r.Int64()>>r.IntN(6)
	}
	switch r.IntN(20) {
	case 0:
		return api.Event{Kind: api.KOpen, Day: day, Account: pick(r, "Other", "Assets:New", "Other:Kid", "Debt:Home"), Type: pick(r, 0, 0, api.Expense)}
	case 1:
		return api.Event{Kind: api.KClose, Day: day + 20, Account: pick(r, "Other", "Assets:New", "Other:Kid", cust)}
	case 2, 3, 4, 5:
		return api.Event{Kind: api.KPost, Day: day, Key: key, Memo: pick(r, "", "", "rent", "a, b; |x  y"), Lines: []api.Line{line(name(), n), line(name(), -n)}}
	case 6:
		return api.Event{Kind: api.KPost, Day: day, Key: key, Lines: []api.Line{line(name(), n+1), {Account: name(), Amount: -n, Tag: pick(r, "", "flat")}, line(name(), -1)}}
	case 7, 8:
		ref := key
		if len(b.Entries) > 0 {
			ref = pick(r, b.Entries...).Key
		}
		return api.Event{Kind: api.KVoid, Day: day + 10, Key: key, Ref: ref}
	case 9, 10, 11:
		return api.Event{Kind: api.KInvoice, Day: day, Key: key, Account: asset(), Other: work, Due: day + r.IntN(50), Amount: n}
	case 12, 13, 14:
		return api.Event{Kind: api.KPay, Day: day, Key: key, Account: asset(), Other: pick(r, bank, "Assets"), Amount: n}
	case 15:
		return api.Event{Kind: api.KLock, Day: pick(r, b.Lock+r.IntN(5), day-50, d+r.IntN(20))}
	}
	return api.Event{Kind: api.KAllot, Day: day + 30, Key: key, Ref: m.keyOf(b.Payments), Ref2: m.keyOf(b.Invoices), Amount: 1 + n/4}
}

// line: an event's line, sometimes one that is none's.
func (m *maker) line() string {
	if m.books.Len() < len(first()) && m.r.IntN(8) > 0 {
		e, _ := event.Parse(first()[m.books.Len()], m.digits)
		m.books.Apply(e)
		s, _ := event.Print(e, m.digits)
		return s
	}
	e := m.event()
	m.books.Apply(e)
	s, why := event.Print(e, m.digits)
	switch m.r.IntN(40) {
	case 0:
		return s[:m.r.IntN(len(s)+1)]
	case 1:
		return strings.ReplaceAll(s, " ", "  ")
	}
	if why != api.OK {
		return "open"
	}
	return s
}

func (m *maker) date() string { return dateText(d + m.r.IntN(170) - 10) }

func (m *maker) name() string {
	return pick(m.r, bank, ann, cust, "Assets", "Income", work, "Costs", "Debt", "Own", "Other", "Nobody", "x!", "Other:Kid")
}

// ask: a command that only asks, of the ledger and of the disk.
func (m *maker) ask() string {
	r, b := m.r, m.books.Base()
	switch r.IntN(20) {
	case 0:
		return "len"
	case 1, 2:
		return "event " + strconv.Itoa(r.IntN(m.books.Len()+3)-1)
	case 3:
		return "trial"
	case 4, 5:
		return "rollup " + m.name()
	case 6, 7:
		return fmt.Sprintf("daily %s %s %s", m.name(), m.date(), pick(r, m.date(), "9999-12-31"))
	case 8:
		return fmt.Sprintf("aged %s %s", m.name(), m.date())
	case 9:
		return fmt.Sprintf("open %s %s", pick(r, ann, cust, m.name()), m.date())
	case 10:
		return "accounts"
	case 11:
		return "left " + pick(r, m.keyOf(b.Invoices), m.keyOf(b.Payments))
	case 12, 13:
		return "query " + m.query()
	case 14:
		return "export"
	case 15, 16:
		return "status"
	case 17:
		return pick(r, "free", "files")
	}
	return m.sheet()
}

func (m *maker) sheet() string {
	switch m.r.IntN(5) {
	case 0:
		return "sheet trial"
	case 1:
		return "sheet tree"
	case 2:
		return fmt.Sprintf("sheet income %s %s", m.date(), m.date())
	case 3:
		return "sheet position " + m.date()
	}
	return fmt.Sprintf("sheet statement %s %s", pick(m.r, ann, cust, m.name()), m.date())
}

func (m *maker) query() string {
	return pick(m.r, "show count, sum(amount)", "by account show sum(amount), count order 3 desc", "where account under 'Assets' show sum(amount)", "by day, memo, tag show min(key), max(seq), sum(debit - credit) limit 5", "by key show min('say \"x\"'), max(amount) limit 3",
		"show", "", "show sum(day)", "where amount * 9223372036854775807 > 0 show count", "show count limit 0", "by root show max(line), min(memo)  ")
}

// quiet: a command that brings no events and lets no power fail.
func (m *maker) quiet() string {
	r := m.r
	switch r.IntN(11) {
	case 0, 1, 2:
		return "snapshot"
	case 3:
		return "trim " + strconv.Itoa(r.IntN(5)-1)
	case 4, 5, 6:
		return "rebuild " + strconv.Itoa(r.IntN(12)-1)
	case 7:
		return "reopen"
	case 8:
		return "crash" + pick(r, "", " 0", " 1 2 3", " 9999 -5")
	case 9:
		return "lose " + strconv.Itoa(r.IntN(4)-1)
	}
	return fmt.Sprintf("turn %d %d %d", r.IntN(4)-1, r.IntN(34), 1+r.IntN(255))
}

// journal: an import, with its lines.
func (m *maker) journal() []string {
	l := []string{"import"}
	for range m.r.IntN(6) {
		l = append(l, pick(m.r, m.line(), m.line(), m.line(), "; len", "", "post 2024-02-20 j"+strconv.Itoa(m.r.IntN(30))+"\n  Costs  5\n  Assets:Bank"))
	}
	if m.r.IntN(6) == 0 {
		l = append(l, pick(m.r, "len", "import", "# x", "  Costs 5", "lock 2024-02-30"))
	}
	return append(l, "end")
}

// lines: a piece of a script. With power the disk may fail.
func (m *maker) lines(power bool) []string {
	r := m.r
	switch n := r.IntN(32); {
	case n < 11:
		return []string{"submit " + m.line()}
	case n < 14:
		return m.journal()
	case n < 18:
		return []string{m.quiet()}
	case n == 18 && power:
		return []string{"fuse " + strconv.Itoa(r.IntN(9)-2)}
	case n == 19 && power:
		return []string{"crash " + strconv.Itoa(r.IntN(60)), "reopen"}
	case n <= 19:
		return []string{"crash", "reopen"}
	case n == 20:
		return []string{"reopen"}
	case n == 21:
		return pick(r, []string{""}, []string{"# x"}, []string{"#"}, []string{"", ""})
	case n < 24:
		ask := m.ask()
		return []string{ask, ask}
	}
	return []string{m.ask()}
}

// script: so many pieces behind a first line, and mostly behind the first accounts.
func (m *maker) script(head string, pieces int, power bool) string {
	l := []string{head}
	if m.r.IntN(6) > 0 {
		for range first() {
			l = append(l, "submit "+m.line())
		}
	}
	for range pieces {
		l = append(l, m.lines(power)...)
	}
	return text(l...)
}

// anyScript: of every sort, on disks large and small, with the power failing.
func anyScript(r *rand.Rand, pieces int) string {
	digits := pick(r, 2, 2, 0, 6)
	head := fmt.Sprintf("daybook %d %d %d", pick(r, 100000, 100000, 1000, 600, 3000, 1<<20), pick(r, 64, 100, 4096, 65536), digits)
	if r.IntN(20) == 0 {
		head = pick(r, "daybook -1 64 2", "daybook 1048577 4096 2", "daybook 1000 63 2", "daybook 1000 65537 2", "daybook 1000 64 7", "daybook 1000 64 -1", "daybook 10 64 2", "daybook 0 64 2")
	}
	return newMaker(r, digits).script(head, pieces, true)
}

// turnsTwice: two turns tell the same name.
func turnsTwice(in, trace string) bool {
	commands, _ := script.Parse(in)
	items, _ := modelItems(commands, trace)
	names := map[string]bool{}
	for _, it := range items {
		if it.c.Word == "turn" && it.says("ok") {
			if names[it.first] {
				return true
			}
			names[it.first] = true
		}
	}
	return false
}

// right: a script, and its trace, of which P20.2 holds.
func right(t *testing.T, r *rand.Rand, pieces int) (string, string) {
	t.Helper()
	for {
		in := anyScript(r, pieces)
		if trace := traceOf(t, in); !turnsTwice(in, trace) {
			return in, trace
		}
	}
}

// TestP20_2_Walks: the traces of scripts of every sort break no rule, and the model says so too.
func TestP20_2_Walks(t *testing.T) {
	r := source(2)
	seen := map[string]int{}
	for range 400 {
		in, trace := right(t, r, 20+r.IntN(120))
		checks(t, in, trace, 0, 0, api.OK)
		checksAlike(t, in, trace)
		commands, _ := script.Parse(in)
		items, _ := modelItems(commands, trace)
		s := learn(commands[0], nil)
		for _, it := range items {
			what := it.words()[0]
			switch {
			case it.says("error"):
				what += " " + it.words()[1]
			case it.c.Word == "reopen" && it.says("ok") && it.num(1) > len(s.events):
				what = "took the pending event"
			case it.c.Word == "reopen" && it.says("ok") && len(s.pending) > 0:
				what = "did not take it"
			case it.c.Word == "status" && s.full:
				what = "full"
			case it.c.Word == "status" && s.down && s.at > 0:
				what = "down in a rebuild"
			}
			seen[it.c.Word+": "+what]++
			s.learn(it)
		}
	}
	for _, want := range []string{"reopen: took the pending event", "reopen: did not take it", "status: full", "status: down in a rebuild", "submit: error 34", "submit: error 30", "submit: error 180", "import: error 34", "import: error 30", "import: error 180", "import: error 160", "rebuild: error 34", "rebuild: error 1",
		"snapshot: error 34", "snapshot: error 30", "trim: error 34", "export: error 34", "event: error 34", "reopen: error 34", "lose: ok", "turn: ok", "daybook: error 30", "daybook: error 1", "free: closed", "len: closed", "left: error 73", "query: error 34", "query: error 130"} {
		if seen[want] == 0 {
			t.Errorf("no script has %q", want)
		}
	}
}
