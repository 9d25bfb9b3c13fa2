package ledger

import (
	"cmp"
	"fmt"
	"maps"
	"math"
	"math/rand/v2"
	"slices"
	"strconv"
	"strings"
	"testing"

	"daybook/answer"
	"daybook/api"
	"daybook/book"
	"daybook/disk"
	"daybook/grammar"
	"daybook/paper"
)

const (
	greatest = math.MaxInt
	least    = math.MinInt

	d    = 738886 // 2024-01-01
	bank = "Assets:Bank"
	cust = "Assets:Cust"
	ann  = "Assets:Cust:Ann"
	work = "Income:Work"
)

// source gives the same numbers in every run.
func source(n uint64) *rand.Rand { return rand.New(rand.NewPCG(18, n)) }

func opens(day int, name string, typ int) api.Event {
	return api.Event{Kind: api.KOpen, Day: day, Account: name, Type: typ}
}

func shuts(day int, name string) api.Event {
	return api.Event{Kind: api.KClose, Day: day, Account: name}
}

func line(name string, n int64) api.Line { return api.Line{Account: name, Amount: n} }

func post(day int, key string, l ...api.Line) api.Event {
	return api.Event{Kind: api.KPost, Day: day, Key: key, Lines: l}
}

func void(day int, key, ref string) api.Event {
	return api.Event{Kind: api.KVoid, Day: day, Key: key, Ref: ref}
}

func invoice(day int, key, account, other string, due int, n int64) api.Event {
	return api.Event{Kind: api.KInvoice, Day: day, Key: key, Account: account, Other: other, Due: due, Amount: n}
}

func pay(day int, key, account, other string, n int64) api.Event {
	return api.Event{Kind: api.KPay, Day: day, Key: key, Account: account, Other: other, Amount: n}
}

func allot(day int, key, ref, ref2 string, n int64) api.Event {
	return api.Event{Kind: api.KAllot, Day: day, Key: key, Ref: ref, Ref2: ref2, Amount: n}
}

func lock(day int) api.Event { return api.Event{Kind: api.KLock, Day: day} }

// first: accounts of an asset and an income, all opened on day d.
func first() []api.Event {
	return []api.Event{opens(d, "Assets", api.Asset), opens(d, bank, 0), opens(d, cust, 0), opens(d, ann, 0), opens(d, "Income", api.Income), opens(d, work, 0)}
}

// story: events of every kind, their days back and forth, that books take in this order.
func story() []api.Event {
	noted := post(d+5, "x1", api.Line{Account: "Costs", Amount: 500, Tag: "flat"}, line(bank, -500))
	noted.Memo = "rent"
	return append(first(),
		opens(d+2, "Costs", api.Expense),
		invoice(d+10, "i1", ann, work, d+40, 10000),
		noted,
		pay(d+20, "p1", ann, bank, 6000),
		allot(d+21, "a1", "p1", "i1", 4000),
		void(d+6, "v1", "x1"),
		invoice(d+7, "i2", cust, work, d+8, 70),
		allot(d+20, "a2", "p1", "i1", 1500),
		opens(d+1, "Old", api.Equity),
		shuts(d+3, "Old"),
		lock(d+4),
		post(d+30, "x2", line(bank, 7), line("Costs", -3), line(work, -4)),
		pay(d+50, "p2", cust, bank, 70),
		allot(d+60, "a3", "p2", "i2", 70),
		post(d+60, "x3", line(bank, -7), line("Costs", 7)),
		lock(d+45),
		opens(d+46, "Gone", api.Liability),
		post(d+47, "x4", line("Gone", -11), line(bank, 11)),
		void(d+47, "v4", "x4"),
		invoice(d+59, "i3", ann, work, d+59, 1),
		shuts(d+80, "Gone"),
	)
}

// later: events that books behind the story take.
func later() []api.Event {
	return []api.Event{
		post(d+81, "l1", line(bank, 5), line(ann, -5)), void(d+81, "l2", "l1"), void(d+81, "l3", "x2"), invoice(d+82, "l4", ann, work, d+90, 44),
		pay(d+83, "l5", ann, bank, 45), allot(d+84, "l6", "l5", "l4", 44), allot(d+84, "l7", "l5", "i3", 1), opens(d+85, "Zeta", api.Equity), shuts(d+86, "Zeta"), lock(d + 70),
	}
}

// refusals: events that books behind the story refuse, one at least for each error that they have.
func refusals() map[string]refusal {
	const late = d + 90
	l := map[string]refusal{}
	for _, r := range []refusal{
		{api.Event{}, api.ErrEvent},
		{api.Event{Kind: 9, Day: late}, api.ErrEvent},
		{lock(api.MaxDay + 1), api.ErrEvent},
		{opens(late, "Root", 0), api.ErrEvent},
		{invoice(late, "n", ann, work, late-1, 5), api.ErrEvent},
		{allot(late, "n", "p1", "i1", 0), api.ErrEvent},
		{opens(late, bank, 0), api.ErrExists},
		{opens(late, "No:Parent", 0), api.ErrUnknown},
		{opens(late, "Gone:Kid", 0), api.ErrClosed},
		{shuts(late, "No"), api.ErrUnknown},
		{shuts(late, "Gone"), api.ErrClosed},
		{shuts(late, bank), api.ErrUse},
		{shuts(late, "Assets"), api.ErrUse},
		{post(late, "n", line(bank, 5), line(ann, -4)), api.ErrBalance},
		{post(late, "n", line(bank, 5), line("No", -5)), api.ErrUnknown},
		{post(late, "n", line(bank, 5), line("Gone", -5)), api.ErrClosed},
		{post(late, "i1", line(bank, 5), line(ann, -5)), api.ErrTwice},
		{post(d+45, "n", line(bank, 5), line(ann, -5)), api.ErrLocked},
		{post(late, "n", line(bank, 1<<62), line(ann, -1<<62)), api.ErrOverflow},
		{void(late, "n", "i1"), api.ErrRef},
		{void(late, "n", "x1"), api.ErrVoided},
		{void(d+59, "n", "x3"), api.ErrEarly},
		{invoice(late, "n", work, ann, late, 5), api.ErrType},
		{invoice(late, "n", ann, work, late, 1<<62), api.ErrOverflow},
		{pay(late, "n", ann, work, 5), api.ErrType},
		{pay(late, "n", ann, "No", 5), api.ErrUnknown},
		{allot(late, "n", "i1", "p1", 5), api.ErrRef},
		{allot(late, "n", "p1", "i2", 5), api.ErrMix},
		{allot(d+58, "n", "p1", "i3", 1), api.ErrEarly},
		{allot(late, "n", "p1", "i1", 501), api.ErrOver},
		{lock(d + 45), api.ErrEarly},
	} {
		l[fmt.Sprintf("%+v", r.e)] = r
	}
	return l
}

type refusal struct {
	e   api.Event
	why api.Errno
}

// asked: the calls that only ask. A ledger has them, and the model of one.
type asked interface {
	Len() int
	Event(n int) (api.Event, api.Errno)
	Trial() ([]api.Column, api.Errno)
	Rollup(account string) (api.Balance, api.Errno)
	Daily(account string, from, to int) ([]api.DayRow, api.Errno)
	Aged(account string, day int) (api.Ages, api.Errno)
	Open(account string, day int) ([]api.Claim, api.Errno)
	Accounts() ([]api.Account, api.Errno)
	Left(key string) (int64, api.Errno)
	Query(s string) (api.Table, int, api.Errno)
	Export() (string, api.Errno)
}

// plain is the model: a list of events that books take, and each answer worked out of their rows anew.
type plain struct {
	digits int
	events []api.Event
	books  *book.Book
	base   api.Base
}

// behind: the model behind these events.
func behind(t *testing.T, events []api.Event) *plain {
	t.Helper()
	p := &plain{digits: 2, events: slices.Clone(events), books: book.New()}
	for _, e := range events {
		if _, why := p.books.Apply(e); why != api.OK {
			t.Fatalf("the books refuse %+v: %d", e, int(why))
		}
	}
	p.base = p.books.Base()
	return p
}

// with: the model behind one more event.
func (p *plain) with(t *testing.T, e api.Event) *plain {
	t.Helper()
	q := behind(t, append(slices.Clone(p.events), e))
	q.digits = p.digits
	return q
}

func (p *plain) knows(account string) bool {
	return slices.ContainsFunc(p.base.Accounts, func(a api.Account) bool { return a.Name == account })
}

func (p *plain) Len() int { return len(p.events) }

func (p *plain) Event(n int) (api.Event, api.Errno) {
	if n < 1 || n > len(p.events) {
		return api.Event{}, api.ErrNoRecord
	}
	return p.events[n-1], api.OK
}

func (p *plain) Trial() (l []api.Column, _ api.Errno) {
	for _, b := range balances(p.base.Rows) {
		if b.Own > 0 {
			l = append(l, api.Column{Account: b.Account, Debit: b.Own})
		} else if b.Own < 0 {
			l = append(l, api.Column{Account: b.Account, Credit: -b.Own})
		}
	}
	return l, api.OK
}

func (p *plain) Rollup(account string) (api.Balance, api.Errno) {
	if !p.knows(account) {
		return api.Balance{}, api.ErrUnknown
	}
	b := api.Balance{Account: account}
	for _, row := range p.base.Rows {
		if row.Account == account {
			b.Own += row.Amount
		}
		if strings.HasPrefix(row.Account+":", account+":") {
			b.Rollup += row.Amount
		}
	}
	return b, api.OK
}

func (p *plain) Daily(account string, from, to int) (l []api.DayRow, _ api.Errno) {
	if from < 1 || to > 3652059 || from > to {
		return nil, api.ErrArg
	}
	if !p.knows(account) {
		return nil, api.ErrUnknown
	}
	for _, row := range days(p.base.Rows) {
		if row.Account == account && row.Day >= from && row.Day <= to {
			l = append(l, row)
		}
	}
	return l, api.OK
}

func (p *plain) Aged(account string, day int) (ages api.Ages, _ api.Errno) {
	open, why := p.Open(account, day)
	for _, c := range open {
		age := 0
		for _, from := range []int{1, 31, 61, 91} {
			if day-c.Due >= from {
				age++
			}
		}
		ages[age] += c.Amount
	}
	return ages, why
}

func (p *plain) Open(account string, day int) (l []api.Claim, _ api.Errno) {
	if day < 1 || day > 3652059 {
		return nil, api.ErrArg
	}
	if !p.knows(account) {
		return nil, api.ErrUnknown
	}
	for _, c := range p.base.Invoices {
		for _, a := range p.base.Allots {
			if a.Invoice == c.Key && a.Day <= day {
				c.Amount -= a.Amount
			}
		}
		if c.Account == account && c.Day <= day && c.Amount > 0 {
			l = append(l, c)
		}
	}
	slices.SortFunc(l, func(a, b api.Claim) int {
		return cmp.Or(cmp.Compare(a.Due, b.Due), cmp.Compare(a.Day, b.Day), cmp.Compare(a.Key, b.Key))
	})
	return l, api.OK
}

func (p *plain) Accounts() ([]api.Account, api.Errno) { return p.base.Accounts, api.OK }

func (p *plain) Left(key string) (int64, api.Errno) {
	for _, c := range slices.Concat(p.base.Invoices, p.base.Payments) {
		if c.Key != key {
			continue
		}
		for _, a := range p.base.Allots {
			if a.Invoice == key || a.Pay == key {
				c.Amount -= a.Amount
			}
		}
		return c.Amount, api.OK
	}
	return 0, api.ErrRef
}

func (p *plain) Query(s string) (api.Table, int, api.Errno) {
	q, at, why := grammar.Parse(s)
	if why != api.OK {
		return api.Table{}, at, why
	}
	table, why := answer.Scan(q, p.base.Rows)
	return table, 0, why
}

func (p *plain) Export() (string, api.Errno) { return paper.Print(p.events, p.digits) }

// snap: the checkpoint behind the events.
func (p *plain) snap() api.Snap {
	s := api.Snap{Base: p.base, Balances: balances(p.base.Rows), Days: days(p.base.Rows), Claims: p.base.Invoices, Allots: p.base.Allots, AsOf: 1}
	for _, e := range p.events {
		s.AsOf = max(s.AsOf, e.Day)
	}
	return s
}

// balances: of rows, those of all accounts that hold something, or have one below them that does.
func balances(rows []api.Posting) (l []api.Balance) {
	own := map[string]int64{}
	for _, row := range rows {
		own[row.Account] += row.Amount
	}
	all := map[string]*api.Balance{}
	for name, n := range own {
		for at := 0; n != 0 && at <= len(name); at++ { // every beginning of its parts
			if at < len(name) && name[at] != ':' {
				continue
			}
			if all[name[:at]] == nil {
				all[name[:at]] = &api.Balance{Account: name[:at], Own: own[name[:at]]}
			}
			all[name[:at]].Rollup += n
		}
	}
	for _, name := range slices.Sorted(maps.Keys(all)) {
		l = append(l, *all[name])
	}
	return l
}

// days: of rows, each account's and day's change that is not 0.
func days(rows []api.Posting) (l []api.DayRow) {
	change := map[api.DayRow]int64{} // by account and day
	for _, row := range rows {
		change[api.DayRow{Account: row.Account, Day: row.Day}] += row.Amount
	}
	for at, n := range change {
		if n != 0 {
			at.Change = n
			l = append(l, at)
		}
	}
	slices.SortFunc(l, func(a, b api.DayRow) int {
		return cmp.Or(cmp.Compare(a.Account, b.Account), cmp.Compare(a.Day, b.Day))
	})
	for i := range l {
		l[i].Balance = l[i].Change
		if i > 0 && l[i-1].Account == l[i].Account {
			l[i].Balance += l[i-1].Balance
		}
	}
	return l
}

// questions: a query for each way of answering, and some that have none.
func questions() []string {
	return []string{
		"show sum(amount)", "where account = 'Assets:Bank' show sum(amount)", "where account under 'Assets' show sum(amount), sum(amount)", // by sums
		"where account = 'Assets:Bank' and day <= 2024-01-31 show sum(amount)", "where day > 2024-01-10 and account = 'Assets:Cust:Ann' and day < 2024-02-29 show sum(amount)", // by days
		"by account show sum(amount), count", "by month, root show sum(debit), sum(credit), max(memo) order 3 desc, 1", "where tag = 'flat' by key show min(day), max(seq) limit 2", // by rows
		"where kind = 3 show count", "where false show min(day)", "show count count", "where day = 2024-02-30 show count", "", strings.Repeat(" ", 601),
		"show sum(day)", "where amount * 9223372036854775807 > 0 show count",
	}
}

// told: all that a ledger tells of its events.
func told(x asked) string {
	var b strings.Builder
	say := func(what string, answers ...any) { fmt.Fprintf(&b, "%s: %+v\n", what, answers) }
	n := x.Len()
	say("Len", n)
	names, keys := []string{"", "Q", "Assets:Q", "assets"}, []string{"", "zz", "i1", "p1", "x1", "v1", "a1"}
	for i := range n + 2 {
		e, why := x.Event(i)
		say("Event "+strconv.Itoa(i), e, why)
		keys = append(keys, e.Key)
	}
	trial, why := x.Trial()
	say("Trial", trial, why)
	accounts, why := x.Accounts()
	say("Accounts", accounts, why)
	for _, a := range accounts {
		names = append(names, a.Name)
	}
	for _, name := range names {
		tellAccount(x, name, say)
	}
	for _, key := range keys {
		left, why := x.Left(key)
		say("Left "+key, left, why)
	}
	for _, q := range questions() {
		table, at, why := x.Query(q)
		say(q, table, at, why)
	}
	text, why := x.Export()
	say("Export", text, why)
	return b.String()
}

func tellAccount(x asked, name string, say func(string, ...any)) {
	balance, why := x.Rollup(name)
	say("Rollup "+name, balance, why)
	for _, span := range [][2]int{{1, api.MaxDay}, {d + 5, d + 20}, {d + 20, d + 5}, {d + 20, d + 20}, {0, d + 20}, {d, api.MaxDay + 1}} {
		rows, why := x.Daily(name, span[0], span[1])
		say(fmt.Sprint("Daily ", name, span), rows, why)
	}
	for _, day := range []int{0, 1, d + 9, d + 10, d + 20, d + 21, d + 41, d + 80, d + 131, api.MaxDay, api.MaxDay + 1} {
		ages, why := x.Aged(name, day)
		say(fmt.Sprint("Aged ", name, day), ages, why)
		open, why := x.Open(name, day)
		say(fmt.Sprint("Open ", name, day), open, why)
	}
}

// alike: a ledger tells what the model does.
func alike(t *testing.T, what string, l, m asked) {
	t.Helper()
	got, want := strings.Split(told(l), "\n"), strings.Split(told(m), "\n")
	for i := range min(len(got), len(want)) {
		if got[i] != want[i] {
			t.Fatalf("%s:\n%s\nwant\n%s", what, got[i], want[i])
		}
	}
	if len(got) != len(want) {
		t.Fatalf("%s: %d answers, want %d", what, len(got), len(want))
	}
}

func same[T comparable](t *testing.T, what string, got, want T) {
	t.Helper()
	if got != want {
		t.Errorf("%s: %v, want %v", what, got, want)
	}
}

// want: a call's Errno is this one.
func want(t *testing.T, what string, got, why api.Errno) {
	t.Helper()
	if got != why {
		t.Fatalf("%s: error %d, want %d", what, int(got), int(why))
	}
}

func newDisk(t *testing.T, capacity int) *disk.Disk {
	t.Helper()
	x, why := disk.New(capacity)
	want(t, "disk.New", why, api.OK)
	return x
}

func from(t *testing.T, s api.Disk) *disk.Disk {
	t.Helper()
	x, why := disk.From(s)
	want(t, "disk.From", why, api.OK)
	return x
}

// copied: a disk of its own with the same state.
func copied(t *testing.T, x *disk.Disk) *disk.Disk {
	t.Helper()
	return from(t, x.State())
}

// crashed: such a one behind a crash.
func crashed(t *testing.T, x *disk.Disk, keep ...int) *disk.Disk {
	t.Helper()
	x = copied(t, x)
	x.Crash(keep)
	return x
}

// on: the ledger on a disk.
func on(t *testing.T, x *disk.Disk, segment int) *Ledger {
	t.Helper()
	l, why := Open(x, api.Settings{Segment: segment, Digits: 2})
	want(t, "Open", why, api.OK)
	return l
}

// kept: a ledger with these events on a new disk with room enough, and the disk.
func kept(t *testing.T, segment int, events []api.Event) (*Ledger, *disk.Disk) {
	t.Helper()
	x := newDisk(t, api.MaxDisk)
	l := on(t, x, segment)
	takes(t, l, events)
	return l, x
}

// takes: the ledger takes all of these.
func takes(t *testing.T, l *Ledger, events []api.Event) {
	t.Helper()
	for _, e := range events {
		n := l.Len()
		if got, why := l.Submit(e); got != n+1 || why != api.OK || l.Len() != n+1 {
			t.Fatalf("Submit(%+v): %d, error %d; Len %d behind %d", e, got, int(why), l.Len(), n)
		}
	}
}

// shown: all that a disk keeps.
func shown(x *disk.Disk) string { return fmt.Sprintf("%q", fmt.Sprint(x.State())) }

// data: a file's bytes.
func data(x *disk.Disk, name string) []byte {
	for _, f := range x.State().Files {
		if f.Name == name {
			return f.Data
		}
	}
	return nil
}

// names: of a disk's files.
func names(x *disk.Disk) string {
	var l []string
	for _, f := range x.State().Files {
		l = append(l, f.Name)
	}
	return strings.Join(l, " ")
}

// withFile: a disk like another one, but for a file, which has these bytes; without bytes there is no such file.
func withFile(t *testing.T, x *disk.Disk, name string, b []byte) *disk.Disk {
	t.Helper()
	s := x.State()
	s.Files = slices.DeleteFunc(s.Files, func(f api.File) bool { return f.Name == name })
	if b != nil {
		s.Files = append(s.Files, api.File{Name: name, Data: b, Synced: len(b)})
	}
	slices.SortFunc(s.Files, func(a, b api.File) int { return cmp.Compare(a.Name, b.Name) })
	return from(t, s)
}

// calls: how many changing calls of a disk something makes.
func calls(t *testing.T, x *disk.Disk, do func()) int {
	t.Helper()
	want(t, "Fuse", x.Fuse(api.MaxFuse), api.OK)
	do()
	n := api.MaxFuse - x.State().Fuse
	want(t, "Fuse", x.Fuse(-1), api.OK)
	return n
}

func status(l *Ledger) string {
	p, readOnly := l.Status()
	return fmt.Sprintf("%+v %v", p, readOnly)
}

// has: what Status tells.
func has(t *testing.T, l *Ledger, p api.Progress, readOnly bool) {
	t.Helper()
	same(t, "Status", status(l), fmt.Sprintf("%+v %v", p, readOnly))
}
