package sheet

import (
	"cmp"

	"daybook/api"
	"daybook/chart"
	"daybook/money"
)

const resultTitle = "Result"

// line is an amount, and what it is of.
type line struct {
	label string
	worth int64
}

func (l line) name() string  { return l.label }
func (l line) amount() int64 { return l.worth }

// balances is accounts, which rise, with the amounts of their rows that count. over: a sum that was asked for is no amount.
type balances struct {
	accounts []api.Account
	rows     map[string][]int64
	over     api.Errno
}

// counted is the balances of the rows from a day to another one; a row at fault is told whether it counts or not.
func counted(accounts []api.Account, rows []api.Posting, from, to int) (*balances, api.Errno) {
	c, e := chart.From(accounts)
	if e != api.OK {
		return nil, e
	}
	if e := firstFault(rows, func(r api.Posting) api.Errno { return rowFault(c, r) }); e != api.OK {
		return nil, e
	}
	b := &balances{accounts: accounts, rows: map[string][]int64{}}
	for _, r := range rows {
		if r.Day >= from && r.Day <= to {
			b.rows[r.Account] = append(b.rows[r.Account], r.Amount)
		}
	}
	return b, api.OK
}

// rowFault is why a row can't be one of a chart's accounts.
func rowFault(c *chart.Chart, r api.Posting) api.Errno {
	if _, known := c.Find(r.Account); !known {
		return api.ErrUnknown
	}
	if !isDay(r.Day) {
		return api.ErrDay
	}
	return money.Check(r.Amount)
}

// sum is that of amounts.
func (b *balances) sum(l ...int64) int64 {
	n, e := money.Sum(l)
	b.over = cmp.Or(b.over, e)
	return n
}

// sumOf is that of a block.
func (b *balances) sumOf(l []line) int64 { return b.sum(worths(l, line.amount)...) }

// block is the accounts of a type whose own is not 0, by rising name, each with its own on the type's side.
func (b *balances) block(accountType int) []line {
	var l []line
	for _, a := range b.accounts {
		if a.Type != accountType {
			continue
		}
		if own := b.sum(b.rows[a.Name]...); own != 0 {
			l = append(l, line{indent + a.Name, sided(own, accountType)})
		}
	}
	return l
}

// result is what all accounts of Income and Expense come to. Its parts do not stand in a position: they need be no amounts.
func (b *balances) result() int64 {
	var l []int64
	for _, a := range b.accounts {
		if a.Type == api.Income || a.Type == api.Expense {
			l = append(l, b.rows[a.Name]...)
		}
	}
	return -b.sum(l...)
}

// sided is an own as it is told of its type: what is a credit in the books is above 0 on the credits' side.
func sided(own int64, accountType int) int64 {
	switch accountType {
	case api.Income, api.Liability, api.Equity:
		return -own
	}
	return own
}

// paired is a grid of labels and amounts.
type paired struct {
	texts
	*grid
}

func newPaired(digits int) paired { return paired{texts{digits}, newGrid(left, right)} }

func (p paired) pair(label string, a int64) { p.add(label, p.amount(a)) }

func (p paired) pairs(l []line) { set(p.grid, l, line.name, p.worth) }

func (p paired) worth(l line) string { return p.amount(l.worth) }

// block sets a block and its sum.
func (p paired) block(title string, l []line, sum int64) {
	p.add(title)
	p.pairs(l)
	p.pair(sumTitle, sum)
}

// agesOf is the ages with their titles.
func agesOf(ages api.Ages) []line {
	return []line{
		{"Not due", ages[0]},
		{"1 to 30 days", ages[1]},
		{"31 to 60 days", ages[2]},
		{"61 to 90 days", ages[3]},
		{"More than 90 days", ages[4]},
	}
}
