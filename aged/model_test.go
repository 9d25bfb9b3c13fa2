package aged

import (
	"math/big"
	"math/rand/v2"
	"slices"
	"strings"
	"testing"

	"daybook/api"
)

const (
	most     = 1<<63 - 1
	least    = -1 << 63
	firstDay = 1
	lastDay  = 3652059
	manyMost = 1000
	d        = 738000
)

// source: numbers that are the same in every run.
func source(n uint64) *rand.Rand { return rand.New(rand.NewPCG(10, n)) }

func inv(key, account string, day, due int, amount int64) api.Claim {
	return api.Claim{Key: key, Account: account, Day: day, Due: due, Amount: amount}
}

func alt(pay, invoice string, day int, amount int64) api.Allot {
	return api.Allot{Pay: pay, Invoice: invoice, Day: day, Amount: amount}
}

// badDays: numbers that are no day.
func badDays() []int {
	return []int{firstDay - 1, -1, -d, lastDay + 1, lastDay + 100, most, most - 91, least, least + 91, -most}
}

// texts: of all sorts, rising.
func texts() []string {
	l := []string{"", " ", "\x00", "\x00\x00", "\n", "\"", "-", "A", "A:B", "A:B:C", "AB", "a", "a\x00", "a b", "aa", "ann", "bob", "~", "\x7f", "\x80", "\xc3", "\xc3\xa4", "\xff", "\xff\x00", "\xff\xff", strings.Repeat("k", 300), strings.Repeat("k", 301)}
	slices.Sort(l)
	return l
}

func isADay(day int) bool { return day >= firstDay && day <= lastDay }

// model: what was taken, and the day; everything is worked out of that anew.
type model struct {
	claims []api.Claim
	allots []api.Allot
	day    int
}

func (m model) claim(key string) (api.Claim, bool) {
	for _, c := range m.claims {
		if c.Key == key {
			return c, true
		}
	}
	return api.Claim{}, false
}

// openAt: what is open of a claim at a day.
func (m model) openAt(c api.Claim, day int) int64 {
	if day < c.Day {
		return 0
	}
	n := c.Amount
	for _, x := range m.allots {
		if x.Invoice == c.Key && x.Day <= day {
			n -= x.Amount
		}
	}
	return n
}

// left: whatever the days are.
func (m model) left(c api.Claim) int64 { return m.openAt(c, most) }

// ageAt: by the chapter's words.
func ageAt(c api.Claim, day int) int {
	switch n := day - c.Due; {
	case n <= 0:
		return 0
	case n <= 30:
		return 1
	case n <= 60:
		return 2
	case n <= 90:
		return 3
	}
	return 4
}

func (m model) at(account string, day int) (ages api.Ages) {
	for _, c := range m.open(account, day) {
		ages[ageAt(c, day)] += c.Amount
	}
	return ages
}

// ahead: whether a claim is told ahead of another one.
func ahead(x, y api.Claim) bool {
	if x.Due != y.Due {
		return x.Due < y.Due
	}
	if x.Day != y.Day {
		return x.Day < y.Day
	}
	return x.Key < y.Key
}

func (m model) open(account string, day int) (l []api.Claim) {
	if !isADay(day) {
		return nil
	}
	for _, c := range m.claims {
		if n := m.openAt(c, day); c.Account == account && n != 0 {
			c.Amount = n
			i := 0
			for i < len(l) && ahead(l[i], c) {
				i++
			}
			l = slices.Insert(l, i, c)
		}
	}
	return l
}

func sumOf(claims []api.Claim) *big.Int {
	n := new(big.Int)
	for _, c := range claims {
		n.Add(n, big.NewInt(c.Amount))
	}
	return n
}

// invoiceReasons: all errors that hold for a claim, in the chapter's order.
func (m model) invoiceReasons(c api.Claim) (l []api.Errno) {
	if !isADay(c.Day) || !isADay(c.Due) || c.Due < c.Day || c.Amount < 1 {
		l = append(l, api.ErrArg)
	}
	if len(m.claims) >= manyMost {
		l = append(l, api.ErrMany)
	}
	if _, there := m.claim(c.Key); there {
		l = append(l, api.ErrTwice)
	}
	if sumOf(append(slices.Clone(m.claims), c)).Cmp(big.NewInt(most)) > 0 {
		l = append(l, api.ErrOverflow)
	}
	return l
}

// allotReasons: all errors that hold for an allotment, in the chapter's order.
func (m model) allotReasons(x api.Allot) (l []api.Errno) {
	if !isADay(x.Day) || x.Amount < 1 {
		l = append(l, api.ErrArg)
	}
	if len(m.allots) >= manyMost {
		l = append(l, api.ErrMany)
	}
	c, there := m.claim(x.Invoice)
	if !there {
		return append(l, api.ErrRef)
	}
	if x.Day < c.Day {
		l = append(l, api.ErrEarly)
	}
	if x.Amount > m.left(c) {
		l = append(l, api.ErrOver)
	}
	return l
}

func (m model) advanceReasons(day int) (l []api.Errno) {
	if !isADay(day) {
		l = append(l, api.ErrArg)
	}
	if day < m.day {
		l = append(l, api.ErrEarly)
	}
	return l
}

// firstOf: the error that is answered.
func firstOf(l []api.Errno) api.Errno {
	if len(l) == 0 {
		return api.OK
	}
	return l[0]
}

func (m *model) invoice(c api.Claim) api.Errno {
	e := firstOf(m.invoiceReasons(c))
	if e == api.OK {
		m.claims = append(slices.Clone(m.claims), c)
	}
	return e
}

func (m *model) allot(x api.Allot) api.Errno {
	e := firstOf(m.allotReasons(x))
	if e == api.OK {
		m.allots = append(slices.Clone(m.allots), x)
	}
	return e
}

func (m *model) advance(day int) api.Errno {
	e := firstOf(m.advanceReasons(day))
	if e == api.OK {
		m.day = day
	}
	return e
}

// valid: whether a view can be of these, by the chapter's words.
func valid(claims []api.Claim, allots []api.Allot, day int) bool {
	if !isADay(day) {
		return false
	}
	m := model{day: firstDay}
	for _, c := range claims {
		if m.invoice(c) != api.OK {
			return false
		}
	}
	for _, x := range allots {
		if m.allot(x) != api.OK {
			return false
		}
	}
	return true
}

// askedDays: those of an account's claims and of what was allotted to them, each edge of an age, the days beside them, the view's day, the ends, and numbers that are no day.
func askedDays(m model, account string) []int {
	l := append(badDays(), firstDay, firstDay+1, lastDay-1, lastDay, m.day-1, m.day, m.day+1)
	var keys []string
	for _, c := range m.claims {
		if c.Account == account {
			keys = append(keys, c.Key)
			for _, n := range []int{0, 30, 60, 90} {
				l = append(l, c.Due+n, c.Due+n+1)
			}
			l = append(l, c.Day-1, c.Day, c.Day+1, c.Due-1)
		}
	}
	for _, x := range m.allots {
		if slices.Contains(keys, x.Invoice) {
			l = append(l, x.Day-1, x.Day, x.Day+1)
		}
	}
	slices.Sort(l)
	return slices.Compact(l)
}

func (m model) accounts() (l []string) {
	for _, c := range m.claims {
		l = append(l, c.Account)
	}
	slices.Sort(l)
	return slices.Compact(l)
}

// alike: whether a view tells all that the model does, of the accounts that are there and of others.
func alike(t *testing.T, a *Aged, m model, others ...string) {
	t.Helper()
	if got := a.AsOf(); got != m.day {
		t.Fatalf("AsOf: %d, want %d", got, m.day)
	}
	if got := a.Claims(); !slices.Equal(got, m.claims) {
		t.Fatalf("Claims: %v, want %v", got, m.claims)
	}
	if got := a.Allots(); !slices.Equal(got, m.allots) {
		t.Fatalf("Allots: %v, want %v", got, m.allots)
	}
	asked := slices.Concat(others, m.accounts(), []string{"", "nobody"})
	slices.Sort(asked)
	for _, account := range slices.Compact(asked) {
		if got, want := a.Now(account), m.at(account, m.day); got != want {
			t.Fatalf("Now(%q) on %d: %v, want %v", account, m.day, got, want)
		}
		for _, day := range askedDays(m, account) {
			if got, want := a.At(account, day), m.at(account, day); got != want {
				t.Fatalf("At(%q, %d): %v, want %v", account, day, got, want)
			}
			if got, want := a.Open(account, day), m.open(account, day); !slices.Equal(got, want) {
				t.Fatalf("Open(%q, %d): %v, want %v", account, day, got, want)
			}
		}
	}
}

// both: a view beside its model.
type both struct {
	t *testing.T
	a *Aged
	m model
}

func fresh(t *testing.T) *both { return &both{t, New(), model{day: firstDay}} }

// told: what both answered, which must be the same.
func (x *both) told(what any, got, want api.Errno) api.Errno {
	x.t.Helper()
	if got != want {
		x.t.Fatalf("%+v: %d, want %d", what, got, want)
	}
	return got
}

func (x *both) invoice(c api.Claim) api.Errno {
	x.t.Helper()
	return x.told(c, x.a.Invoice(c), x.m.invoice(c))
}

func (x *both) allot(y api.Allot) api.Errno {
	x.t.Helper()
	return x.told(y, x.a.Allot(y), x.m.allot(y))
}

func (x *both) advance(day int) api.Errno {
	x.t.Helper()
	return x.told(day, x.a.Advance(day), x.m.advance(day))
}

// ends: how a call must end, and at once again if it is an error; then nothing is changed.
func (x *both) ends(why api.Errno, call func() api.Errno) {
	x.t.Helper()
	for range 2 {
		if e := call(); e != why {
			x.t.Fatalf("%d, want %d", e, why)
		}
		if why == api.OK {
			return
		}
		alike(x.t, x.a, x.m)
	}
}

func (x *both) invoices(why api.Errno, l ...api.Claim) {
	x.t.Helper()
	for _, c := range l {
		x.ends(why, func() api.Errno { return x.invoice(c) })
	}
}

func (x *both) allotments(why api.Errno, l ...api.Allot) {
	x.t.Helper()
	for _, y := range l {
		x.ends(why, func() api.Errno { return x.allot(y) })
	}
}

func (x *both) goesTo(why api.Errno, days ...int) {
	x.t.Helper()
	for _, day := range days {
		x.ends(why, func() api.Errno { return x.advance(day) })
	}
}

// copyOf: the view that From makes of what another one tells.
func copyOf(t *testing.T, a *Aged) *Aged {
	t.Helper()
	b, e := From(a.Claims(), a.Allots(), a.AsOf())
	if e != api.OK || b == nil {
		t.Fatalf("From(%v, %v, %d): %d", a.Claims(), a.Allots(), a.AsOf(), e)
	}
	return b
}
