package sums

import (
	"math/big"
	"math/rand/v2"
	"regexp"
	"slices"
	"strings"
	"testing"

	"daybook/api"
)

var nameForm = regexp.MustCompile(`\A[A-Z][A-Za-z0-9-]{0,15}(:[A-Z][A-Za-z0-9-]{0,15}){0,5}\z`)

const (
	longestPart = "Abcdefghijklmno9"
	longestName = longestPart + ":" + longestPart + ":" + longestPart + ":" + longestPart + ":" + longestPart + ":" + longestPart
	most        = 1<<63 - 1
	least       = -1 << 63
)

// source: numbers that are the same in every run.
func source(n uint64) *rand.Rand { return rand.New(rand.NewPCG(8, n)) }

func row(account string, amount int64) api.Posting {
	return api.Posting{Account: account, Amount: amount}
}

func bal(account string, own, rollup int64) api.Balance {
	return api.Balance{Account: account, Own: own, Rollup: rollup}
}

func debit(account string, n int64) api.Column  { return api.Column{Account: account, Debit: n} }
func credit(account string, n int64) api.Column { return api.Column{Account: account, Credit: n} }

// badNames: texts that are no account's name, each for another reason.
func badNames() []string {
	return []string{
		"", " ", ":", "a", "A:b", "A:", ":A", "A::B", "1", "-", "A:1", "A:-", "A_", "A.B", "A B", "A ", " A", "A\n", "A\x00", "\xc3\x84", "A\xff",
		longestPart + "x", "A:" + longestPart + "x", "A:B:C:D:E:F:G", longestName + ":A", longestName + ":", strings.Repeat("A", 200), strings.Repeat(":", 200),
	}
}

// beginnings: each beginning of a name's parts, the longest first.
func beginnings(name string) (l []string) {
	parts := strings.Split(name, ":")
	for n := len(parts); n > 0; n-- {
		l = append(l, strings.Join(parts[:n], ":"))
	}
	return l
}

func large(n int64) *big.Int { return big.NewInt(n) }

func tooLarge(n *big.Int) bool { return n.CmpAbs(large(most)) > 0 }

// model: all rows that were taken; everything is worked out of them anew.
type model []api.Posting

// sum: of the rows whose account a function chooses.
func (m model) sum(chosen func(account string) bool) *big.Int {
	n := new(big.Int)
	for _, r := range m {
		if chosen(r.Account) {
			n.Add(n, large(r.Amount))
		}
	}
	return n
}

func (m model) own(name string) *big.Int {
	return m.sum(func(account string) bool { return account == name })
}

func (m model) rollup(name string) *big.Int {
	return m.sum(func(account string) bool {
		return name != "" && (account == name || strings.HasPrefix(account, name+":"))
	})
}

// holders: the accounts with an own balance that is not 0, by rising name.
func (m model) holders() (l []string) {
	for _, r := range m {
		if m.own(r.Account).Sign() != 0 {
			l = append(l, r.Account)
		}
	}
	slices.Sort(l)
	return slices.Compact(l)
}

func (m model) totals() (*big.Int, *big.Int) {
	debits, credits := new(big.Int), new(big.Int)
	for _, name := range m.holders() {
		if n := m.own(name); n.Sign() > 0 {
			debits.Add(debits, n)
		} else {
			credits.Sub(credits, n)
		}
	}
	return debits, credits
}

func (m model) trial() (l []api.Column) {
	for _, name := range m.holders() {
		if n := m.own(name); n.Sign() > 0 {
			l = append(l, debit(name, n.Int64()))
		} else {
			l = append(l, credit(name, n.Neg(n).Int64()))
		}
	}
	return l
}

func (m model) state() (l []api.Balance) {
	names := []string{}
	for _, name := range m.holders() {
		names = append(names, beginnings(name)...)
	}
	slices.Sort(names)
	for _, name := range slices.Compact(names) {
		l = append(l, bal(name, m.own(name).Int64(), m.rollup(name).Int64()))
	}
	return l
}

// reasons: all errors that the chapter's words name for rows, in its order. Rows that are wrong count for the bounds with what they have.
func (m model) reasons(rows []api.Posting) (l []api.Errno) {
	wrong := func(r api.Posting) bool { return !nameForm.MatchString(r.Account) || r.Amount == least }
	if slices.ContainsFunc(rows, wrong) {
		l = append(l, api.ErrArg)
	}
	debits, credits := slices.Concat(m, rows).totals()
	if tooLarge(debits) || tooLarge(credits) {
		l = append(l, api.ErrOverflow)
	}
	return l
}

func (m *model) apply(rows []api.Posting) api.Errno {
	if l := m.reasons(rows); len(l) > 0 {
		return l[0]
	}
	*m = append(slices.Clone(*m), rows...)
	return api.OK
}

// valid: whether a list of balances is a State, by the chapter's words.
func valid(l []api.Balance) bool {
	rows := model{}
	for i, b := range l {
		if !nameForm.MatchString(b.Account) || b.Own == least || i > 0 && l[i-1].Account >= b.Account {
			return false
		}
		if b.Own != 0 {
			rows = append(rows, row(b.Account, b.Own))
		}
	}
	debits, credits := rows.totals()
	if tooLarge(debits) || tooLarge(credits) {
		return false
	}
	there := func(name string) bool {
		return slices.ContainsFunc(l, func(b api.Balance) bool { return b.Account == name })
	}
	for _, b := range l {
		holds := func(r api.Posting) bool { return r.Account == b.Account || strings.HasPrefix(r.Account, b.Account+":") }
		if !slices.ContainsFunc(rows, holds) || rows.rollup(b.Account).Cmp(large(b.Rollup)) != 0 {
			return false
		}
		for _, above := range beginnings(b.Account) {
			if !there(above) {
				return false
			}
		}
	}
	return true
}

// alike: whether Sums tell all that the model does, of the names that are there and of others.
func alike(t *testing.T, s *Sums, m model, others ...string) {
	t.Helper()
	if got, want := s.State(), m.state(); !slices.Equal(got, want) {
		t.Fatalf("State: %v, want %v", got, want)
	}
	if got, want := s.Trial(), m.trial(); !slices.Equal(got, want) {
		t.Fatalf("Trial: %v, want %v", got, want)
	}
	debits, credits := s.Totals()
	if wantD, wantC := m.totals(); debits != wantD.Int64() || credits != wantC.Int64() {
		t.Fatalf("Totals: %d, %d, want %d, %d", debits, credits, wantD, wantC)
	}
	asked := slices.Concat(others, badNames(), []string{"A", "Zz", longestName})
	for _, b := range m.state() {
		asked = append(asked, b.Account, b.Account+":", b.Account+":Zz", b.Account+"-", b.Account[:len(b.Account)-1])
	}
	for _, name := range asked {
		if got, want := s.Own(name), m.own(name); got != want.Int64() {
			t.Fatalf("Own(%q): %d, want %d", name, got, want)
		}
		if got, want := s.Rollup(name), m.rollup(name); got != want.Int64() {
			t.Fatalf("Rollup(%q): %d, want %d", name, got, want)
		}
	}
}

// both: Sums beside their model.
type both struct {
	t *testing.T
	s *Sums
	m model
}

func fresh(t *testing.T) *both { return &both{t: t, s: New()} }

// tell: rows to both; the answers must be the same.
func (x *both) tell(rows ...api.Posting) api.Errno {
	x.t.Helper()
	got, want := x.s.Apply(rows), x.m.apply(rows)
	if got != want {
		x.t.Fatalf("Apply(%v): %d, want %d", rows, got, want)
	}
	return got
}

// take: rows that must be taken.
func (x *both) take(rows ...api.Posting) {
	x.t.Helper()
	if e := x.tell(rows...); e != api.OK {
		x.t.Fatalf("Apply(%v): %d", rows, e)
	}
}

// refused: rows that must be refused, at once again too, and change nothing.
func (x *both) refused(why api.Errno, rows ...api.Posting) {
	x.t.Helper()
	for range 2 {
		if e := x.tell(rows...); e != why {
			x.t.Fatalf("Apply(%v): %d, want %d", rows, e, why)
		}
		alike(x.t, x.s, x.m)
	}
}

// copyOf: Sums that From makes of a list that must be a State.
func copyOf(t *testing.T, l []api.Balance) *Sums {
	t.Helper()
	s, e := From(l)
	if e != api.OK || s == nil {
		t.Fatalf("From(%v): %v, %d", l, s, e)
	}
	return s
}
