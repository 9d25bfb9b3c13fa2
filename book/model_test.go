package book

import (
	"cmp"
	"math/big"
	"math/rand/v2"
	"slices"
	"strings"
	"testing"

	"daybook/api"
	"daybook/event"
)

// source: numbers that are the same in every run.
func source(n uint64) *rand.Rand { return rand.New(rand.NewPCG(7, n)) }

// model: what the books keep, as lists alone; everything else is worked out of them anew each time.
type model struct{ api.Base }

func (m *model) account(name string) (api.Account, bool) {
	for _, a := range m.Accounts {
		if a.Name == name {
			return a, true
		}
	}
	return api.Account{}, false
}

// sizes: all rows' amounts without their signs, and those of some lines, added.
func (m *model) sizes(lines []api.Line) *big.Int {
	sum := new(big.Int)
	for _, row := range m.Rows {
		sum.Add(sum, new(big.Int).Abs(big.NewInt(row.Amount)))
	}
	for _, l := range lines {
		sum.Add(sum, new(big.Int).Abs(big.NewInt(l.Amount)))
	}
	return sum
}

func (m *model) own(name string) *big.Int {
	sum := new(big.Int)
	for _, row := range m.Rows {
		if row.Account == name {
			sum.Add(sum, big.NewInt(row.Amount))
		}
	}
	return sum
}

func (m *model) left(key string) (int64, bool) {
	for _, c := range slices.Concat(m.Invoices, m.Payments) {
		if c.Key != key {
			continue
		}
		for _, a := range m.Allots {
			if a.Pay == key || a.Invoice == key {
				c.Amount -= a.Amount
			}
		}
		return c.Amount, true
	}
	return 0, false
}

func claimOf(l []api.Claim, key string) (api.Claim, bool) {
	i := slices.IndexFunc(l, func(c api.Claim) bool { return c.Key == key })
	if i < 0 {
		return api.Claim{}, false
	}
	return l[i], true
}

func (m *model) entry(key string) *api.Entry {
	for i := range m.Entries {
		if m.Entries[i].Key == key {
			return &m.Entries[i]
		}
	}
	return nil
}

// lines: what the rows of an event are made of, by the table of DOC.md, "Rows".
func (m *model) lines(e api.Event) (l []api.Line) {
	switch e.Kind {
	case api.KPost:
		l = append(l, e.Lines...)
	case api.KVoid:
		if p := m.entry(e.Ref); p != nil {
			for _, x := range p.Lines {
				l = append(l, api.Line{Account: x.Account, Amount: -x.Amount, Tag: x.Tag})
			}
		}
	case api.KInvoice:
		l = append(l, api.Line{Account: e.Account, Amount: e.Amount}, api.Line{Account: e.Other, Amount: -e.Amount})
	case api.KPay:
		l = append(l, api.Line{Account: e.Other, Amount: e.Amount}, api.Line{Account: e.Account, Amount: -e.Amount})
	}
	return l
}

// said: errors, in the order in which they were found to apply.
type said []api.Errno

func (s *said) say(e api.Errno, so bool) {
	if so {
		*s = append(*s, e)
	}
}

func (s *said) mayNot(m *model, name string, day int) {
	a, is := m.account(name)
	s.say(api.ErrUnknown, !is)
	s.say(api.ErrClosed, is && a.Closed)
	s.say(api.ErrEarly, is && a.Opened > day)
}

// reasons: all errors of DOC.md, "What the books take", that apply to an event, in that order.
func (m *model) reasons(e api.Event) (s said) {
	s.say(api.ErrEvent, event.Check(e) != api.OK)
	s.say(api.ErrMany, m.Events >= 1000)
	s.say(api.ErrTwice, e.Key != "" && slices.Contains(m.Keys, e.Key))
	s.say(api.ErrLocked, e.Kind != api.KLock && e.Day <= m.Lock)
	switch e.Kind {
	case api.KOpen:
		m.openReasons(&s, e)
	case api.KClose:
		m.closeReasons(&s, e)
	case api.KPost, api.KVoid:
		m.postReasons(&s, e)
	case api.KInvoice, api.KPay:
		m.claimReasons(&s, e)
	case api.KAllot:
		m.allotReasons(&s, e)
	case api.KLock:
		s.say(api.ErrEarly, e.Day <= m.Lock)
	}
	return s
}

func (m *model) openReasons(s *said, e api.Event) {
	_, is := m.account(e.Account)
	s.say(api.ErrExists, is)
	s.say(api.ErrMany, len(m.Accounts) >= 100)
	if i := strings.LastIndex(e.Account, ":"); i >= 0 {
		s.mayNot(m, e.Account[:i], e.Day)
	}
}

func (m *model) closeReasons(s *said, e api.Event) {
	a, is := m.account(e.Account)
	s.say(api.ErrUnknown, !is)
	s.say(api.ErrClosed, a.Closed)
	use, early := m.own(e.Account).Sign() != 0, e.Day < a.Opened
	for _, b := range m.Accounts {
		use = use || strings.HasPrefix(b.Name, e.Account+":") && !b.Closed
	}
	for _, c := range slices.Concat(m.Invoices, m.Payments) {
		n, _ := m.left(c.Key)
		use = use || c.Account == e.Account && n > 0
	}
	for _, row := range m.Rows {
		early = early || row.Account == e.Account && e.Day < row.Day
	}
	s.say(api.ErrUse, is && use)
	s.say(api.ErrEarly, is && early)
}

func (m *model) postReasons(s *said, e api.Event) {
	if e.Kind == api.KVoid {
		p := m.entry(e.Ref)
		s.say(api.ErrRef, p == nil)
		s.say(api.ErrVoided, p != nil && p.Void != "")
		s.say(api.ErrEarly, p != nil && e.Day < p.Day)
	}
	sum := new(big.Int)
	for _, l := range m.lines(e) {
		s.mayNot(m, l.Account, e.Day)
		sum.Add(sum, big.NewInt(l.Amount))
	}
	s.say(api.ErrBalance, sum.Sign() != 0)
	s.say(api.ErrOverflow, !m.sizes(m.lines(e)).IsInt64())
}

func (m *model) claimReasons(s *said, e api.Event) {
	s.mayNot(m, e.Account, e.Day)
	s.mayNot(m, e.Other, e.Day)
	a, is := m.account(e.Account)
	b, are := m.account(e.Other)
	s.say(api.ErrType, is && a.Type != api.Asset || are && b.Type != map[int]int{api.KInvoice: api.Income, api.KPay: api.Asset}[e.Kind])
	s.say(api.ErrOverflow, !m.sizes(m.lines(e)).IsInt64())
}

func (m *model) allotReasons(s *said, e api.Event) {
	p, is := claimOf(m.Payments, e.Ref)
	i, are := claimOf(m.Invoices, e.Ref2)
	s.say(api.ErrRef, !is || !are)
	s.say(api.ErrMix, is && are && p.Account != i.Account)
	s.say(api.ErrEarly, e.Day < p.Day || e.Day < i.Day)
	n, _ := m.left(p.Key)
	o, _ := m.left(i.Key)
	s.say(api.ErrOver, is && e.Amount > n || are && e.Amount > o)
}

// check: the first reason, OK if there is none.
func (m *model) check(e api.Event) api.Errno {
	if l := m.reasons(e); len(l) > 0 {
		return l[0]
	}
	return api.OK
}

// apply: of an event that is taken the rows that it makes, the lists going on.
func (m *model) apply(e api.Event) (rows []api.Posting, why api.Errno) {
	if why = m.check(e); why != api.OK {
		return nil, why
	}
	m.Events++
	for i, l := range m.lines(e) {
		rows = append(rows, api.Posting{Seq: m.Events, Line: i + 1, Day: e.Day, Kind: e.Kind, Key: e.Key, Account: l.Account, Amount: l.Amount, Tag: l.Tag, Memo: e.Memo})
	}
	m.Rows = append(m.Rows, rows...)
	if e.Key != "" {
		m.Keys = append(m.Keys, e.Key)
	}
	at := slices.IndexFunc(m.Accounts, func(a api.Account) bool { return a.Name == e.Account })
	switch e.Kind {
	case api.KOpen:
		root, _, _ := strings.Cut(e.Account, ":")
		if a, is := m.account(root); is {
			e.Type = a.Type
		}
		m.Accounts = append(m.Accounts, api.Account{Name: e.Account, Type: e.Type, Opened: e.Day})
		slices.SortFunc(m.Accounts, func(a, b api.Account) int { return cmp.Compare(a.Name, b.Name) })
	case api.KClose:
		m.Accounts[at].Closed = true
	case api.KPost:
		m.Entries = append(m.Entries, api.Entry{Key: e.Key, Day: e.Day, Lines: slices.Clone(e.Lines)})
	case api.KVoid:
		m.entry(e.Ref).Void = e.Key
	case api.KInvoice:
		m.Invoices = append(m.Invoices, api.Claim{Key: e.Key, Account: e.Account, Day: e.Day, Due: e.Due, Amount: e.Amount})
	case api.KPay:
		m.Payments = append(m.Payments, api.Claim{Key: e.Key, Account: e.Account, Day: e.Day, Amount: e.Amount})
	case api.KAllot:
		m.Allots = append(m.Allots, api.Allot{Pay: e.Ref, Invoice: e.Ref2, Day: e.Day, Amount: e.Amount})
	case api.KLock:
		m.Lock = e.Day
	}
	return rows, api.OK
}

// same: whether two bases are, nil and empty lists taken as one.
func same(a, b api.Base) bool {
	return a.Events == b.Events && a.Lock == b.Lock && slices.Equal(a.Keys, b.Keys) && slices.Equal(a.Accounts, b.Accounts) && slices.Equal(a.Rows, b.Rows) &&
		slices.Equal(a.Invoices, b.Invoices) && slices.Equal(a.Payments, b.Payments) && slices.Equal(a.Allots, b.Allots) &&
		slices.EqualFunc(a.Entries, b.Entries, func(x, y api.Entry) bool {
			return x.Key == y.Key && x.Day == y.Day && x.Void == y.Void && slices.Equal(x.Lines, y.Lines)
		})
}

// cloned: a base with lists of its own.
func cloned(b api.Base) api.Base {
	b.Keys, b.Accounts, b.Rows, b.Entries = slices.Clone(b.Keys), slices.Clone(b.Accounts), slices.Clone(b.Rows), slices.Clone(b.Entries)
	b.Invoices, b.Payments, b.Allots = slices.Clone(b.Invoices), slices.Clone(b.Payments), slices.Clone(b.Allots)
	for i := range b.Entries {
		b.Entries[i].Lines = slices.Clone(b.Entries[i].Lines)
	}
	return b
}

// alike: whether books tell all that the model does, of what is there and of some names and keys that are not.
func alike(t *testing.T, b *Book, m *model) {
	t.Helper()
	if got := b.Base(); !same(got, m.Base) {
		t.Fatalf("Base:\n%+v\nwant:\n%+v", got, m.Base)
	}
	if n := m.sizes(nil); !n.IsInt64() || b.Turnover() != n.Int64() || b.Len() != m.Events || b.Lock() != m.Lock {
		t.Fatalf("Turnover %d, Len %d, Lock %d; want %d, %d, %d", b.Turnover(), b.Len(), b.Lock(), n, m.Events, m.Lock)
	}
	names := []string{"", "a", "A", "A:", "Zz", "Zz:Y", "A b", "Assets:Nobody", "\xff"}
	for _, a := range m.Accounts {
		names = append(names, a.Name, a.Name+":", a.Name+":Q")
	}
	for _, name := range names {
		got, is := b.Account(name)
		if want, are := m.account(name); got != want || is != are {
			t.Fatalf("Account(%q): %v, %v, want %v, %v", name, got, is, want, are)
		}
	}
	for _, key := range append([]string{"", "nobody", "x y"}, m.Keys...) {
		got, is := b.Left(key)
		if want, are := m.left(key); got != want || is != are {
			t.Fatalf("Left(%q): %d, %v, want %d, %v", key, got, is, want, are)
		}
	}
}

// both: books, and the model beside them that is told the same.
type both struct {
	t *testing.T
	b *Book
	m *model
}

func begun(t *testing.T) *both { return &both{t, New(), &model{}} }

// made: books of a base, and its model.
func made(t *testing.T, base api.Base) *both {
	t.Helper()
	b, why := From(base)
	if why != api.OK {
		t.Fatalf("From(%+v): %d; rules that the model finds broken: %v", base, why, broken(base))
	}
	return &both{t, b, &model{cloned(base)}}
}

// tell: an event, to both; what they answer must be the same.
func (x *both) tell(e api.Event) ([]api.Posting, api.Errno) {
	x.t.Helper()
	if got, want := x.b.Check(e), x.m.check(e); got != want {
		x.t.Fatalf("Check(%+v): %d, want %d; behind %d events", e, got, want, x.m.Events)
	}
	rows, why := x.b.Apply(e)
	want, whyNot := x.m.apply(e)
	if !slices.Equal(rows, want) || why != whyNot {
		x.t.Fatalf("Apply(%+v): %v, %d, want %v, %d; behind %d events", e, rows, why, want, whyNot, x.m.Events)
	}
	return rows, why
}

// take: events that must be taken.
func (x *both) take(l ...api.Event) *both {
	x.t.Helper()
	for _, e := range l {
		if _, why := x.tell(e); why != api.OK {
			x.t.Fatalf("%+v: %d", e, why)
		}
	}
	return x
}

// refuse: an event that must be refused so, and changes nothing.
func (x *both) refuse(want api.Errno, e api.Event) {
	x.t.Helper()
	rows, why := x.tell(e)
	if why != want || len(rows) > 0 {
		x.t.Errorf("%+v: %v, %d, want %d", e, rows, why, want)
	}
	alike(x.t, x.b, x.m)
}

// Events, by their kind.

func open(day int, name string, typ ...int) api.Event {
	return api.Event{Kind: api.KOpen, Day: day, Account: name, Type: append(typ, 0)[0]}
}

func shut(day int, name string) api.Event {
	return api.Event{Kind: api.KClose, Day: day, Account: name}
}

func post(day int, key string, lines ...api.Line) api.Event {
	return api.Event{Kind: api.KPost, Day: day, Key: key, Lines: lines}
}

func line(name string, amount int64, tag ...string) api.Line {
	return api.Line{Account: name, Amount: amount, Tag: append(tag, "")[0]}
}

func void(day int, key, ref string) api.Event {
	return api.Event{Kind: api.KVoid, Day: day, Key: key, Ref: ref}
}

func invoice(day int, key, account, other string, due int, amount int64) api.Event {
	return api.Event{Kind: api.KInvoice, Day: day, Key: key, Account: account, Other: other, Due: due, Amount: amount}
}

func pay(day int, key, account, other string, amount int64) api.Event {
	return api.Event{Kind: api.KPay, Day: day, Key: key, Account: account, Other: other, Amount: amount}
}

func allot(day int, key, from, to string, amount int64) api.Event {
	return api.Event{Kind: api.KAllot, Day: day, Key: key, Ref: from, Ref2: to, Amount: amount}
}

func lock(day int) api.Event { return api.Event{Kind: api.KLock, Day: day} }

const (
	bank     = "Assets:Bank"
	cust     = "Assets:Cust"
	greatest = 1<<63 - 1
	least    = -1 << 63
)

// toldBooks: those of 7.4's examples.
func toldBooks(t *testing.T) *both {
	t.Helper()
	return begun(t).take(open(10, "Assets", api.Asset), open(10, bank), open(10, cust), open(10, "Income", api.Income))
}
