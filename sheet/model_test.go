package sheet

import (
	"fmt"
	"math/big"
	"math/rand/v2"
	"regexp"
	"slices"
	"strconv"
	"strings"
	"testing"
	"time"

	"daybook/api"
	"daybook/chart"
)

const (
	most        = 1<<63 - 1
	least       = -1 << 63
	lastDay     = 3652059
	longestPart = "Abcdefghijklmno9"
	longestName = longestPart + ":" + longestPart + ":" + longestPart + ":" + longestPart + ":" + longestPart + ":" + longestPart
	longestKey  = "abcdefghijklmnopqrstuv.X"
)

var (
	nameForm = regexp.MustCompile(`\A[A-Z][A-Za-z0-9-]{0,15}(:[A-Z][A-Za-z0-9-]{0,15}){0,5}\z`)
	keyForm  = regexp.MustCompile(`\A[A-Za-z0-9._-]{1,24}\z`)
	textForm = regexp.MustCompile(`\A[ -~]*\z`)
	// sheetForm: P17.7.
	sheetForm = regexp.MustCompile(`\A([ -~]*[!-~]\n|\n)*\z`)
)

// source: numbers that are the same in every run.
func source(n uint64) *rand.Rand { return rand.New(rand.NewPCG(17, n)) }

// badNames: texts that are no account's name, each for another reason.
func badNames() []string {
	return []string{
		"", " ", ":", "a", "A:b", "A:", ":A", "A::B", "1", "-", "A:1", "A:-", "A_", "A.B", "A B", "A ", " A", "A\n", "A\x00", "\xc3\x84", "A\xff",
		longestPart + "x", "A:" + longestPart + "x", "A:B:C:D:E:F:G", longestName + ":A", longestName + ":", strings.Repeat("A", 200),
	}
}

func badDays() []int {
	return []int{0, -1, lastDay + 1, 1<<32 + 1, -1 << 32, most, least}
}

// badDigits and goodOnes: numbers of digits.
func badDigits() []int { return []int{-1, 7, -7, 1 << 32, 1<<32 + 2, most, least} }
func goodOnes() []int  { return []int{0, 1, 2, 3, 4, 5, 6} }

func large(n int64) *big.Int { return big.NewInt(n) }

func isAmount(n *big.Int) bool { return n.CmpAbs(large(most)) <= 0 }

func plainIsDay(n int64) bool { return n >= 1 && n <= lastDay }

func plainDay(n int) string {
	return time.Date(1, 1, n, 0, 0, 0, 0, time.UTC).Format("2006-01-02")
}

func plainAmount(n *big.Int, digits int) string {
	ten := new(big.Int).Exp(large(10), large(int64(digits)), nil)
	return new(big.Rat).SetFrac(n, ten).FloatString(digits)
}

// plainGrid: 17.1; sides has a letter l or r for each column.
func plainGrid(sides string, rows ...[]string) string {
	text := ""
	for _, row := range rows {
		line := ""
		for i, cell := range row {
			width := 0
			for _, other := range rows {
				if i < len(other) && len(other[i]) > width {
					width = len(other[i])
				}
			}
			if i > 0 {
				line += "  "
			}
			if sides[i] == 'l' {
				width = -width
			}
			line += fmt.Sprintf("%*s", width, cell)
		}
		text += strings.TrimRight(line, " ") + "\n"
	}
	return text
}

// model: what a sheet has come to: its first error, the rows of the grid that is under way.
type model struct {
	digits int
	why    api.Errno
	rows   [][]string
}

// need: where it is not so, that is an error, if there was none ahead of it.
func (m *model) need(so bool, why api.Errno) {
	if !so && m.why == api.OK {
		m.why = why
	}
}

func (m *model) row(cells ...string) { m.rows = append(m.rows, cells) }

// amount: a cell's text; it must be an amount.
func (m *model) amount(n *big.Int) string {
	m.need(isAmount(n), api.ErrOverflow)
	return plainAmount(n, max(0, min(m.digits, 6)))
}

// ends: the text or the error.
func (m *model) ends(head, sides string) (string, api.Errno) {
	if m.why != api.OK {
		return "", m.why
	}
	return head + plainGrid(sides, m.rows...), api.OK
}

func modelOf(digits int) *model {
	m := &model{digits: digits}
	m.need(digits >= 0 && digits <= 6, api.ErrArg)
	return m
}

// plainTrial: P17.1.
func plainTrial(l []api.Column, digits int) (string, api.Errno) {
	m := modelOf(digits)
	debits, credits := large(0), large(0)
	m.row("Account", "Debit", "Credit")
	for _, c := range l {
		m.need(nameForm.MatchString(c.Account), api.ErrPath)
		m.need(c.Debit >= 0 && c.Credit >= 0, api.ErrAmount)
		cells := []string{c.Account, "", ""}
		for i, n := range []int64{c.Debit, c.Credit} {
			if n > 0 {
				cells[i+1] = m.amount(large(n))
			}
		}
		m.row(cells...)
		debits.Add(debits, large(c.Debit))
		credits.Add(credits, large(c.Credit))
	}
	m.row("Sum", m.amount(debits), m.amount(credits))
	return m.ends("", "lrr")
}

func has(accounts []api.Account, name string) bool {
	return slices.ContainsFunc(accounts, func(a api.Account) bool { return a.Name == name })
}

func (m *model) charted(accounts []api.Account) {
	_, why := chart.From(accounts)
	m.need(why == api.OK, why)
}

// plainShare: of a whole that is not 0.
func plainShare(part, whole int64) string {
	double := new(big.Int).Mul(large(part), large(2000))
	double.Abs(double).Add(double, new(big.Int).Abs(large(whole)))
	share := double.Quo(double, new(big.Int).Abs(new(big.Int).Mul(large(whole), large(2))))
	if large(part).Sign() != large(whole).Sign() {
		share.Neg(share)
	}
	if !isAmount(share) {
		return "*"
	}
	return plainAmount(share, 1) + "%"
}

// plainTree: P17.2; the tree's order is that of the lists of parts.
func plainTree(accounts []api.Account, l []api.Balance, digits int) (string, api.Errno) {
	m := modelOf(digits)
	m.charted(accounts)
	told := map[string]int64{}
	for i, b := range l {
		m.need(has(accounts, b.Account), api.ErrUnknown)
		m.need(!slices.ContainsFunc(l[:i], func(o api.Balance) bool { return o.Account == b.Account }), api.ErrTwice)
		m.need(b.Rollup != least, api.ErrAmount)
		told[b.Account] = b.Rollup
	}
	var paths [][]string
	for _, a := range accounts {
		paths = append(paths, strings.Split(a.Name, ":"))
	}
	slices.SortFunc(paths, func(a, b []string) int { return slices.Compare(a, b) })
	for _, parts := range paths {
		own, whole, share := told[strings.Join(parts, ":")], told[parts[0]], ""
		if m.why == api.OK && whole != 0 {
			share = plainShare(own, whole)
		}
		m.row(strings.Repeat("  ", len(parts)-1)+parts[len(parts)-1], m.amount(large(own)), share)
	}
	return m.ends("", "lrr")
}

// told: the faults of rows, whether they count or not.
func (m *model) told(accounts []api.Account, rows []api.Posting) {
	m.charted(accounts)
	for _, r := range rows {
		m.need(has(accounts, r.Account), api.ErrUnknown)
		m.need(plainIsDay(int64(r.Day)), api.ErrDay)
		m.need(r.Amount != least, api.ErrAmount)
	}
}

// held: the sum of the amounts of the rows of some days on some accounts.
func held(rows []api.Posting, from, to int, on func(name string) bool) *big.Int {
	n := large(0)
	for _, r := range rows {
		if r.Day >= from && r.Day <= to && on(r.Account) {
			n.Add(n, large(r.Amount))
		}
	}
	return n
}

// block: its rows, and what they add up to.
func (m *model) block(title string, accounts []api.Account, typ int, rows []api.Posting, from, to int) *big.Int {
	m.row(title)
	sum := large(0)
	for _, a := range accounts {
		own := held(rows, from, to, func(name string) bool { return name == a.Name })
		if a.Type != typ || own.Sign() == 0 {
			continue
		}
		if typ == 2 || typ == 3 || typ == 4 {
			own.Neg(own)
		}
		m.row("  "+a.Name, m.amount(own))
		sum.Add(sum, own)
	}
	return sum
}

// plainIncome: P17.3.
func plainIncome(accounts []api.Account, rows []api.Posting, from, to, digits int) (string, api.Errno) {
	m := modelOf(digits)
	m.need(plainIsDay(int64(from)) && plainIsDay(int64(to)) && from <= to, api.ErrArg)
	m.told(accounts, rows)
	earned := m.block("Income", accounts, 4, rows, from, to)
	m.row("Sum", m.amount(earned))
	spent := m.block("Expense", accounts, 5, rows, from, to)
	m.row("Sum", m.amount(spent))
	m.row("Result", m.amount(new(big.Int).Sub(earned, spent)))
	return m.ends("From "+plainDay(from)+" to "+plainDay(to)+"\n", "lr")
}

// plainPosition: P17.4.
func plainPosition(accounts []api.Account, rows []api.Posting, day, digits int) (string, api.Errno) {
	m := modelOf(digits)
	m.need(plainIsDay(int64(day)), api.ErrArg)
	m.told(accounts, rows)
	assets := m.block("Asset", accounts, 1, rows, 1, day)
	m.row("Sum", m.amount(assets))
	debts := m.block("Liability", accounts, 2, rows, 1, day)
	m.row("Sum", m.amount(debts))
	equity := m.block("Equity", accounts, 3, rows, 1, day)
	result := held(rows, 1, day, func(name string) bool {
		return slices.ContainsFunc(accounts, func(a api.Account) bool { return a.Name == name && a.Type >= 4 })
	})
	result.Neg(result)
	m.row("  Result", m.amount(result))
	equity.Add(equity, result)
	m.row("Sum", m.amount(equity))
	m.row("Total", m.amount(new(big.Int).Add(debts, equity)))
	return m.ends("At "+plainDay(day)+"\n", "lr")
}

// plainStatement: P17.5.
func plainStatement(account string, open []api.Claim, ages api.Ages, day, digits int) (string, api.Errno) {
	m := modelOf(digits)
	m.need(plainIsDay(int64(day)), api.ErrArg)
	m.need(nameForm.MatchString(account), api.ErrPath)
	m.row("Key", "Date", "Due", "Open", "Days")
	sum, aged := large(0), large(0)
	for _, c := range open {
		m.need(c.Account == account, api.ErrMix)
		m.need(keyForm.MatchString(c.Key) && plainIsDay(int64(c.Day)) && plainIsDay(int64(c.Due)) && c.Amount >= 1, api.ErrArg)
		late := ""
		if c.Due < day {
			late = fmt.Sprint(day - c.Due)
		}
		if m.why == api.OK {
			m.row(c.Key, plainDay(c.Day), plainDay(c.Due), m.amount(large(c.Amount)), late)
		}
		sum.Add(sum, large(c.Amount))
	}
	for _, n := range ages {
		m.need(n >= 0, api.ErrAmount)
		aged.Add(aged, large(n))
	}
	m.row("Sum", "", "", m.amount(sum))
	below := &model{digits: digits, why: m.why}
	for i, title := range []string{"Not due", "1 to 30 days", "31 to 60 days", "61 to 90 days", "More than 90 days"} {
		below.row(title, below.amount(large(ages[i])))
	}
	below.row("Sum", below.amount(aged))
	m.need(below.why == api.OK, below.why)
	text, why := m.ends("Statement of "+account+" at "+plainDay(day)+"\n", "lllrr")
	if why != api.OK {
		return "", why
	}
	return text + plainGrid("lr", below.rows...), api.OK
}

// plainCell: a cell's text, or its error.
func plainCell(c api.Cell, typ, digits int) (string, api.Errno) {
	switch {
	case c.Type != typ, typ == 4 && c.Num&1 != c.Num, typ == 2 && !textForm.MatchString(c.Text):
		return "", api.ErrTyping
	case typ == 3 && !plainIsDay(c.Num):
		return "", api.ErrDay
	case typ == 5 && c.Num == least:
		return "", api.ErrAmount
	}
	switch typ {
	case 1:
		return strconv.FormatInt(c.Num, 10), api.OK
	case 2:
		return c.Text, api.OK
	case 3:
		return plainDay(int(c.Num)), api.OK
	case 4:
		return fmt.Sprint(c.Num == 1), api.OK
	}
	return plainAmount(large(c.Num), digits), api.OK
}

// plainTable: P17.6.
func plainTable(t api.Table, digits int) (string, api.Errno) {
	m := modelOf(digits)
	sides := ""
	for _, typ := range t.Types {
		m.need(typ >= 1 && typ <= 5, api.ErrTyping)
		if m.why == api.OK {
			sides += string("?rlllr"[typ])
		}
	}
	for _, row := range t.Rows {
		m.need(len(row) == len(t.Types), api.ErrTyping)
		var cells []string
		for i := range row {
			if m.why == api.OK {
				text, why := plainCell(row[i], t.Types[i], digits)
				m.need(why == api.OK, why)
				cells = append(cells, text)
			}
		}
		m.row(cells...)
	}
	return m.ends("", sides)
}

// is: a call's answer must be this one; a text must be one of P17.7.
func is(t *testing.T, what any, got string, e api.Errno, want string, why api.Errno) {
	t.Helper()
	if got != want || e != why {
		t.Fatalf("%+v:\n%s(%d)\nwant:\n%s(%d)", what, got, e, want, why)
	}
	if !sheetForm.MatchString(got) {
		t.Fatalf("%+v: %q", what, got)
	}
}

// The calls, each held against the model.

func trial(t *testing.T, l []api.Column, digits int) (string, api.Errno) {
	t.Helper()
	got, e := Trial(l, digits)
	want, why := plainTrial(l, digits)
	is(t, []any{"Trial", l, digits}, got, e, want, why)
	return got, e
}

func treeOf(t *testing.T, accounts []api.Account, l []api.Balance, digits int) (string, api.Errno) {
	t.Helper()
	got, e := Tree(accounts, l, digits)
	want, why := plainTree(accounts, l, digits)
	is(t, []any{"Tree", accounts, l, digits}, got, e, want, why)
	return got, e
}

func income(t *testing.T, accounts []api.Account, rows []api.Posting, from, to, digits int) (string, api.Errno) {
	t.Helper()
	got, e := Income(accounts, rows, from, to, digits)
	want, why := plainIncome(accounts, rows, from, to, digits)
	is(t, []any{"Income", accounts, rows, from, to, digits}, got, e, want, why)
	return got, e
}

func position(t *testing.T, accounts []api.Account, rows []api.Posting, day, digits int) (string, api.Errno) {
	t.Helper()
	got, e := Position(accounts, rows, day, digits)
	want, why := plainPosition(accounts, rows, day, digits)
	is(t, []any{"Position", accounts, rows, day, digits}, got, e, want, why)
	return got, e
}

func statement(t *testing.T, account string, open []api.Claim, ages api.Ages, day, digits int) (string, api.Errno) {
	t.Helper()
	got, e := Statement(account, open, ages, day, digits)
	want, why := plainStatement(account, open, ages, day, digits)
	is(t, []any{"Statement", account, open, ages, day, digits}, got, e, want, why)
	return got, e
}

func table(t *testing.T, x api.Table, digits int) (string, api.Errno) {
	t.Helper()
	got, e := Table(x, digits)
	want, why := plainTable(x, digits)
	is(t, []any{"Table", x, digits}, got, e, want, why)
	return got, e
}

// prints, refuses: what a call must answer; behind a call that is held against the model.

func prints(t *testing.T, got string, e api.Errno, lines ...string) {
	t.Helper()
	want := ""
	for _, line := range lines {
		want += line + "\n"
	}
	is(t, "it", got, e, want, api.OK)
}

func refuses(t *testing.T, why api.Errno, got string, e api.Errno) {
	t.Helper()
	is(t, "it", got, e, "", why)
}

// Short forms.

func column(account string, debit, credit int64) api.Column {
	return api.Column{Account: account, Debit: debit, Credit: credit}
}

func account(name string, typ int) api.Account { return api.Account{Name: name, Type: typ, Opened: 1} }

func balance(name string, rollup int64) api.Balance {
	return api.Balance{Account: name, Rollup: rollup}
}

func posted(name string, day int, amount int64) api.Posting {
	return api.Posting{Account: name, Day: day, Amount: amount}
}

func claim(key, name string, day, due int, amount int64) api.Claim {
	return api.Claim{Key: key, Account: name, Day: day, Due: due, Amount: amount}
}

func num(n int64) api.Cell      { return api.Cell{Type: api.TNum, Num: n} }
func letters(s string) api.Cell { return api.Cell{Type: api.TText, Text: s} }
func dated(n int64) api.Cell    { return api.Cell{Type: api.TDay, Num: n} }
func truth(n int64) api.Cell    { return api.Cell{Type: api.TBool, Num: n} }
func cash(n int64) api.Cell     { return api.Cell{Type: api.TMoney, Num: n} }
