package daily

import (
	"math/big"
	"math/rand/v2"
	"regexp"
	"slices"
	"strings"
	"testing"

	"daybook/api"
)

var nameForm = regexp.MustCompile(`\A[A-Z][A-Za-z0-9-]{0,15}(:[A-Z][A-Za-z0-9-]{0,15}){0,5}\z`)

const (
	longestPart = "Abcdefghijklmno9"
	longestName = longestPart + ":" + longestPart + ":" + longestPart + ":" + longestPart + ":" + longestPart + ":" + longestPart
	most        = 1<<63 - 1
	least       = -1 << 63
	firstDay    = 1
	lastDay     = 3652059
)

// source: numbers that are the same in every run.
func source(n uint64) *rand.Rand { return rand.New(rand.NewPCG(9, n)) }

func row(account string, day int, amount int64) api.Posting {
	return api.Posting{Account: account, Day: day, Amount: amount}
}

func dr(account string, day int, change, balance int64) api.DayRow {
	return api.DayRow{Account: account, Day: day, Change: change, Balance: balance}
}

// badNames: texts that are no account's name, each for another reason.
func badNames() []string {
	return []string{
		"", " ", ":", "a", "A:b", "A:", ":A", "A::B", "1", "-", "A:1", "A:-", "A_", "A.B", "A B", "A ", " A", "A\n", "A\x00", "\xc3\x84", "A\xff",
		longestPart + "x", "A:" + longestPart + "x", "A:B:C:D:E:F:G", longestName + ":A", longestName + ":", strings.Repeat("A", 200), strings.Repeat(":", 200),
	}
}

// badDays: numbers that are no day.
func badDays() []int {
	return []int{firstDay - 1, -1, -5, lastDay + 1, lastDay + 100, most, least, -most}
}

func isDay(day int) bool { return day >= firstDay && day <= lastDay }

func large(n int64) *big.Int { return big.NewInt(n) }

func isAmount(n *big.Int) bool { return n.CmpAbs(large(most)) <= 0 }

// model: all rows that were taken; everything is worked out of them anew.
type model []api.Posting

// sum: of the rows on an account whose day a function chooses.
func (m model) sum(account string, chosen func(day int) bool) *big.Int {
	n := new(big.Int)
	for _, r := range m {
		if r.Account == account && chosen(r.Day) {
			n.Add(n, large(r.Amount))
		}
	}
	return n
}

func (m model) change(account string, day int) *big.Int {
	return m.sum(account, func(d int) bool { return d == day })
}

func (m model) at(account string, day int) *big.Int {
	return m.sum(account, func(d int) bool { return d <= day })
}

// days: those of the rows on an account, rising.
func (m model) days(account string) (l []int) {
	for _, r := range m {
		if r.Account == account {
			l = append(l, r.Day)
		}
	}
	slices.Sort(l)
	return slices.Compact(l)
}

func (m model) accounts() (l []string) {
	for _, r := range m {
		l = append(l, r.Account)
	}
	slices.Sort(l)
	return slices.Compact(l)
}

func (m model) between(account string, from, to int) (l []api.DayRow) {
	for _, day := range m.days(account) {
		if n := m.change(account, day); day >= from && day <= to && n.Sign() != 0 {
			l = append(l, dr(account, day, n.Int64(), m.at(account, day).Int64()))
		}
	}
	return l
}

func (m model) state() (l []api.DayRow) {
	for _, account := range m.accounts() {
		l = append(l, m.between(account, least, most)...)
	}
	return l
}

// over: whether a change or a balance is no amount.
func (m model) over() bool {
	for _, account := range m.accounts() {
		for _, day := range m.days(account) {
			if !isAmount(m.change(account, day)) || !isAmount(m.at(account, day)) {
				return true
			}
		}
	}
	return false
}

func wrong(r api.Posting) bool {
	return !nameForm.MatchString(r.Account) || !isDay(r.Day) || r.Amount == least
}

// reasons: all errors that the chapter's words name for rows, in its order. Rows that are wrong count for the bounds with what they have.
func (m model) reasons(rows []api.Posting) (l []api.Errno) {
	if slices.ContainsFunc(rows, wrong) {
		l = append(l, api.ErrArg)
	}
	if slices.Concat(m, rows).over() {
		l = append(l, api.ErrOverflow)
	}
	return l
}

func (m *model) apply(rows []api.Posting) api.Errno {
	if l := m.reasons(rows); len(l) > 0 {
		return l[0]
	}
	*m = append(slices.Clone(*m), rows...)
	return api.OK
}

// brief: a model that tells the same, so that long walks stay quick.
func brief(m model) model {
	l := model{}
	for _, r := range m.state() {
		l = append(l, row(r.Account, r.Day, r.Change))
	}
	return l
}

// rises: whether a row of a State may stand behind another one.
func rises(a, b api.DayRow) bool {
	return a.Account < b.Account || a.Account == b.Account && a.Day < b.Day
}

// valid: whether a list is a State, by the chapter's words.
func valid(l []api.DayRow) bool {
	balance := new(big.Int)
	for i, r := range l {
		if !nameForm.MatchString(r.Account) || !isDay(r.Day) || r.Change == 0 || r.Change == least || i > 0 && !rises(l[i-1], r) {
			return false
		}
		if i == 0 || l[i-1].Account != r.Account {
			balance = new(big.Int)
		}
		balance.Add(balance, large(r.Change))
		if !isAmount(balance) || balance.Cmp(large(r.Balance)) != 0 {
			return false
		}
	}
	return true
}

// askedDays: the days of an account, those beside them, the edges, and numbers that are no day.
func askedDays(m model, account string) []int {
	l := append(badDays(), firstDay, firstDay+1, lastDay-1, lastDay)
	for _, day := range m.days(account) {
		l = append(l, day-1, day, day+1)
	}
	slices.Sort(l)
	return slices.Compact(l)
}

// alike: whether a view tells all that the model does, of the names that are there and of others.
func alike(t *testing.T, d *Daily, m model, others ...string) {
	t.Helper()
	if got, want := d.State(), m.state(); !slices.Equal(got, want) {
		t.Fatalf("State: %v, want %v", got, want)
	}
	asked := slices.Concat(others, badNames(), []string{"A", "Zz", longestName})
	for _, name := range m.accounts() {
		asked = append(asked, name, name+":", name+":Zz", name+"-", name[:len(name)-1])
	}
	slices.Sort(asked)
	for _, name := range slices.Compact(asked) {
		days := askedDays(m, name)
		for i, day := range days {
			if got, want := d.At(name, day), m.at(name, day); got != want.Int64() {
				t.Fatalf("At(%q, %d): %d, want %d", name, day, got, want)
			}
			// Each day with one at each distance, in both orders.
			to := days[(i*i+len(m))%len(days)]
			for _, ends := range [][2]int{{day, day}, {day, to}, {to, day}, {least, day}, {day, most}} {
				if got, want := d.Between(name, ends[0], ends[1]), m.between(name, ends[0], ends[1]); !slices.Equal(got, want) {
					t.Fatalf("Between(%q, %d, %d): %v, want %v", name, ends[0], ends[1], got, want)
				}
			}
		}
	}
}

// wantState: what State must tell.
func wantState(t *testing.T, d *Daily, want ...api.DayRow) {
	t.Helper()
	if got := d.State(); !slices.Equal(got, want) {
		t.Fatalf("State: %v, want %v", got, want)
	}
}

// both: a view beside its model.
type both struct {
	t *testing.T
	d *Daily
	m model
}

func fresh(t *testing.T) *both { return &both{t: t, d: New()} }

// tell: rows to both; the answers must be the same.
func (x *both) tell(rows ...api.Posting) api.Errno {
	x.t.Helper()
	got, want := x.d.Apply(rows), x.m.apply(rows)
	if got != want {
		x.t.Fatalf("Apply(%v): %d, want %d", rows, got, want)
	}
	return got
}

// take: rows that must be taken.
func (x *both) take(rows ...api.Posting) {
	x.t.Helper()
	if e := x.tell(rows...); e != api.OK {
		x.t.Fatalf("Apply(%v): %d", rows, e)
	}
}

// refused: rows that must be refused, at once again too, and change nothing.
func (x *both) refused(why api.Errno, rows ...api.Posting) {
	x.t.Helper()
	for range 2 {
		if e := x.tell(rows...); e != why {
			x.t.Fatalf("Apply(%v): %d, want %d", rows, e, why)
		}
		alike(x.t, x.d, x.m)
	}
}

// copyOf: the view that From makes of a list that must be a State.
func copyOf(t *testing.T, l []api.DayRow) *Daily {
	t.Helper()
	d, e := From(l)
	if e != api.OK || d == nil {
		t.Fatalf("From(%v): %v, %d", l, d, e)
	}
	return d
}
