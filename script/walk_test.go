package script

import (
	"fmt"
	"math/rand/v2"
	"strconv"
	"strings"
	"testing"

	"daybook/api"
	"daybook/book"
	"daybook/event"
)

const (
	d    = 738886 // 2024-01-01
	bank = "Assets:Bank"
	cust = "Assets:Cust"
	ann  = "Assets:Cust:Ann"
	work = "Income:Work"
)

func pick[T any](r *rand.Rand, from ...T) T { return from[r.IntN(len(from))] }

func line(name string, n int64) api.Line { return api.Line{Account: name, Amount: n} }

// first: the lines of accounts of all that the walks go on, all opened on day d.
func first() []string {
	return []string{"open 2024-01-01 Assets asset", "open 2024-01-01 Assets:Bank", "open 2024-01-01 Assets:Cust", "open 2024-01-01 Assets:Cust:Ann", "open 2024-01-01 Income income", "open 2024-01-01 Income:Work", "open 2024-01-01 Costs expense", "open 2024-01-01 Debt liability", "open 2024-01-01 Own equity"}
}

// maker makes scripts' lines; it keeps books of its own, so that what it submits is mostly taken.
type maker struct {
	r      *rand.Rand
	digits int
	books  *book.Book
	n      int
}

func newMaker(r *rand.Rand, digits int) *maker {
	return &maker{r: r, digits: digits, books: book.New()}
}

func (m *maker) keyOf(l []api.Claim) string {
	if len(l) == 0 || m.r.IntN(9) == 0 {
		return "k" + strconv.Itoa(m.r.IntN(99))
	}
	return l[m.r.IntN(len(l))].Key
}

// event: of any kind; the maker's books take more than every second one.
func (m *maker) event() api.Event {
	r, b := m.r, m.books.Base()
	m.n++
	day, key := max(b.Lock, d)+r.IntN(60)-3, pick(r, "i", "p", "x.", "k_", "-")+strconv.Itoa(m.n)
	if r.IntN(12) == 0 && len(b.Keys) > 0 {
		key = pick(r, b.Keys...)
	}
	name := func() string { return pick(r, bank, cust, ann, ann, "Costs", work, "Debt", "Own", "Other") }
	asset := func() string { return pick(r, bank, cust, ann, ann, "Assets", work) }
	n := 1 + r.Int64N(5000)
	if r.IntN(60) == 0 {
		n = 1 + r.Int64()>>r.IntN(6)
	}
	switch r.IntN(20) {
	case 0:
		return api.Event{Kind: api.KOpen, Day: day, Account: pick(r, "Other", "Assets:New", "Other:Kid", "Debt:Home"), Type: pick(r, 0, 0, api.Expense)}
	case 1:
		return api.Event{Kind: api.KClose, Day: day + 20, Account: pick(r, "Other", "Assets:New", "Other:Kid", cust)}
	case 2, 3, 4, 5:
		return api.Event{Kind: api.KPost, Day: day, Key: key, Memo: pick(r, "", "", "rent", "a, b; |x  y"), Lines: []api.Line{line(name(), n), line(name(), -n)}}
	case 6:
		return api.Event{Kind: api.KPost, Day: day, Key: key, Lines: []api.Line{line(name(), n+1), {Account: name(), Amount: -n, Tag: pick(r, "", "flat")}, line(name(), -1)}}
	case 7, 8:
		ref := key
		if len(b.Entries) > 0 {
			ref = pick(r, b.Entries...).Key
		}
		return api.Event{Kind: api.KVoid, Day: day + 10, Key: key, Ref: ref}
	case 9, 10, 11:
		return api.Event{Kind: api.KInvoice, Day: day, Key: key, Account: asset(), Other: work, Due: day + r.IntN(50), Amount: n}
	case 12, 13, 14:
		return api.Event{Kind: api.KPay, Day: day, Key: key, Account: asset(), Other: pick(r, bank, "Assets"), Amount: n}
	case 15:
		return api.Event{Kind: api.KLock, Day: pick(r, b.Lock+r.IntN(5), day-50, d+r.IntN(20))}
	}
	return api.Event{Kind: api.KAllot, Day: day + 30, Key: key, Ref: m.keyOf(b.Payments), Ref2: m.keyOf(b.Invoices), Amount: 1 + n/4}
}

// line: an event's line, sometimes one that is none's.
func (m *maker) line() string {
	if m.books.Len() < len(first()) && m.r.IntN(8) > 0 {
		e, _ := event.Parse(first()[m.books.Len()], m.digits)
		m.books.Apply(e)
		s, _ := event.Print(e, m.digits)
		return s
	}
	e := m.event()
	m.books.Apply(e)
	s, why := event.Print(e, m.digits)
	switch m.r.IntN(40) {
	case 0:
		return s[:m.r.IntN(len(s)+1)]
	case 1:
		return strings.ReplaceAll(s, " ", "  ")
	}
	if why != api.OK {
		return "open"
	}
	return s
}

func (m *maker) date() string { return dateText(d + m.r.IntN(130) - 10) }

func (m *maker) name() string {
	return pick(m.r, bank, ann, cust, "Assets", "Income", work, "Costs", "Debt", "Own", "Other", "Nobody", "x!", "Other:Kid")
}

// ask: a command that only asks, of the ledger and of the disk.
func (m *maker) ask() string {
	r, b := m.r, m.books.Base()
	switch r.IntN(20) {
	case 0:
		return "len"
	case 1, 2:
		return "event " + strconv.Itoa(r.IntN(m.books.Len()+3)-1)
	case 3:
		return "trial"
	case 4, 5:
		return "rollup " + m.name()
	case 6, 7:
		return fmt.Sprintf("daily %s %s %s", m.name(), m.date(), pick(r, m.date(), "9999-12-31"))
	case 8:
		return fmt.Sprintf("aged %s %s", m.name(), m.date())
	case 9:
		return fmt.Sprintf("open %s %s", pick(r, ann, cust, m.name()), m.date())
	case 10:
		return "accounts"
	case 11:
		return "left " + pick(r, m.keyOf(b.Invoices), m.keyOf(b.Payments))
	case 12, 13:
		return "query " + m.query()
	case 14:
		return "export"
	case 15:
		return "status"
	case 16:
		return pick(r, "free", "files")
	}
	return m.sheet()
}

func (m *maker) sheet() string {
	switch m.r.IntN(5) {
	case 0:
		return "sheet trial"
	case 1:
		return "sheet tree"
	case 2:
		return fmt.Sprintf("sheet income %s %s", m.date(), m.date())
	case 3:
		return "sheet position " + m.date()
	}
	return fmt.Sprintf("sheet statement %s %s", pick(m.r, ann, cust, m.name()), m.date())
}

func (m *maker) query() string {
	return pick(m.r,
		"show count, sum(amount)", "by account show sum(amount), count order 3 desc", "where account under 'Assets' show sum(amount)", "where account = 'Assets:Bank' and day <= 2024-02-10 show sum(amount)",
		"by day, memo, tag show min(key), max(seq), sum(debit - credit) limit 5", "by month, kind show min(day), max(day + 3)", "by key show min('say \"x\"'), max(amount) limit 3", "by root show max(line), min(memo)",
		"show", "", "show sum(day)", "where amount * 9223372036854775807 > 0 show count", "where seq = 1 show min(day)", "by year show sum(credit)  ", "show count limit 0", "where x show count", "show max(1 - 2 * seq)")
}

// quiet: a command that changes no list of events and lets no power fail.
func (m *maker) quiet() string {
	r := m.r
	switch r.IntN(10) {
	case 0, 1, 2:
		return "snapshot"
	case 3:
		return "trim " + strconv.Itoa(r.IntN(5)-1)
	case 4, 5:
		return "rebuild " + strconv.Itoa(r.IntN(12)-1)
	case 6:
		return "reopen"
	case 7:
		return "crash" + pick(r, "", " 0", " 1 2 3", " 9999 -5")
	case 8:
		return "lose " + strconv.Itoa(r.IntN(4)-1)
	}
	return fmt.Sprintf("turn %d %d %d", r.IntN(4)-1, r.IntN(34), 1+r.IntN(255))
}

// journal: an import, with its lines.
func (m *maker) journal() []string {
	l := []string{"import"}
	for range m.r.IntN(6) {
		l = append(l, pick(m.r, m.line(), m.line(), m.line(), "; len", "", "post 2024-02-20 j"+strconv.Itoa(m.r.IntN(30))+"\n  Costs  5\n  Assets:Bank"))
	}
	if m.r.IntN(6) == 0 {
		l = append(l, pick(m.r, "len", "import", "# x", "  Costs 5", "lock 2024-02-30"))
	}
	return append(l, "end")
}

// lines: a piece of a script. With power the disk may fail.
func (m *maker) lines(power bool) []string {
	r := m.r
	switch n := r.IntN(30); {
	case n < 13:
		return []string{"submit " + m.line()}
	case n == 13:
		return m.journal()
	case n < 17:
		return []string{m.quiet()}
	case n == 17 && power:
		return []string{"fuse " + strconv.Itoa(r.IntN(9)-2)}
	case n == 18 && power:
		return []string{"crash " + strconv.Itoa(r.IntN(60)), "reopen"}
	case n == 18:
		return []string{"crash", "reopen"}
	case n == 19:
		return []string{"reopen"}
	case n == 20:
		return pick(r, []string{""}, []string{"# x"}, []string{"#"}, []string{"", ""})
	}
	return []string{m.ask()}
}

// script: so many pieces behind a first line, and mostly behind the first accounts.
func (m *maker) script(head string, pieces int, power bool) string {
	l := []string{head}
	if m.r.IntN(6) > 0 {
		for range first() {
			l = append(l, "submit "+m.line())
		}
	}
	for range pieces {
		l = append(l, m.lines(power)...)
	}
	return text(l...)
}

// TestP19_2_Walks: scripts of every sort, on disks large and small, with the power failing; each trace is the double's.
func TestP19_2_Walks(t *testing.T) {
	r := source(2)
	for range 250 {
		digits := pick(r, 2, 2, 0, 6)
		head := fmt.Sprintf("daybook %d %d %d", pick(r, 100000, 100000, 1000, 600, 3000, 1<<20), pick(r, 64, 100, 4096, 65536), digits)
		if r.IntN(20) == 0 {
			head = pick(r, "daybook -1 64 2", "daybook 1048577 4096 2", "daybook 1000 63 2", "daybook 1000 65537 2", "daybook 1000 64 7", "daybook 1000 64 -1", "daybook 10 64 2", "daybook 0 64 2")
		}
		playsAlike(t, newMaker(r, digits).script(head, 20+r.IntN(120), true))
	}
}

// TestP12: on a disk with room, and with power, the trace of every script is what the list of events gives.
func TestP12(t *testing.T) {
	r := source(12)
	for range 120 {
		digits := pick(r, 2, 2, 0, 6)
		playsByList(t, newMaker(r, digits).script(fmt.Sprintf("daybook 1048576 %d %d", pick(r, 256, 1000, 4096, 65536), digits), 20+r.IntN(100), false))
	}
}
