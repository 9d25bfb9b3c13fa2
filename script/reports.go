package script

import (
	"strconv"

	"daybook/api"
	"daybook/day"
	"daybook/money"
)

func (p *player) trial(api.Command) answer {
	l, why := p.ledger.Trial()
	return listed(l, why, p.columnWords)
}

func (p *player) rollup(c api.Command) answer {
	b, why := p.ledger.Rollup(c.Args[0])
	if why != api.OK {
		return failed(why)
	}
	return good(p.amount(b.Own), p.amount(b.Rollup))
}

func (p *player) daily(c api.Command) answer {
	l, why := p.ledger.Daily(c.Args[0], dayAt(c, 1), dayAt(c, 2))
	return listed(l, why, p.dayWords)
}

func (p *player) aged(c api.Command) answer {
	ages, why := p.ledger.Aged(c.Args[0], dayAt(c, 1))
	if why != api.OK {
		return failed(why)
	}
	var words []string
	for _, a := range ages {
		words = append(words, p.amount(a))
	}
	return good(words...)
}

func (p *player) open(c api.Command) answer {
	l, why := p.ledger.Open(c.Args[0], dayAt(c, 1))
	return listed(l, why, p.claimWords)
}

func (p *player) accounts(api.Command) answer {
	l, why := p.ledger.Accounts()
	return listed(l, why, accountWords)
}

func (p *player) left(c api.Command) answer {
	a, why := p.ledger.Left(c.Args[0])
	if why != api.OK {
		return failed(why)
	}
	return good(p.amount(a))
}

func (p *player) query(c api.Command) answer {
	t, at, why := p.ledger.Query(c.Text)
	if why != api.OK {
		return failed(why, at)
	}
	return good(strconv.Itoa(len(t.Rows)), strconv.Itoa(len(t.Types))).withRows(rowsOf(t.Rows, p.cellWords))
}

func (p *player) columnWords(c api.Column) []string {
	return []string{c.Account, p.amount(c.Debit), p.amount(c.Credit)}
}

func (p *player) dayWords(r api.DayRow) []string {
	return []string{dateOf(r.Day), p.amount(r.Change), p.amount(r.Balance)}
}

func (p *player) claimWords(c api.Claim) []string {
	return []string{c.Key, dateOf(c.Day), dateOf(c.Due), p.amount(c.Amount)}
}

func accountWords(a api.Account) []string {
	state := "open"
	if a.Closed {
		state = "closed"
	}
	return []string{a.Name, strconv.Itoa(a.Type), dateOf(a.Opened), state}
}

func (p *player) cellWords(row []api.Cell) []string {
	var words []string
	for _, c := range row {
		words = append(words, p.cellWord(c))
	}
	return words
}

func (p *player) cellWord(c api.Cell) string {
	switch c.Type {
	case api.TMoney:
		return p.amount(c.Num)
	case api.TDay:
		return dateOf(int(c.Num))
	case api.TBool:
		return strconv.FormatBool(c.Num != 0)
	case api.TText:
		return `"` + c.Text + `"`
	}
	return strconv.FormatInt(c.Num, 10)
}

// amount is an amount's text. The ledger tells no other numbers, and is open with no other digits, than have one.
func (p *player) amount(a int64) string {
	text, _ := money.Print(a, p.settings.Digits)
	return text
}

// dateOf is a day's text; the ledger tells no numbers that are none.
func dateOf(n int) string {
	text, _ := day.Print(n)
	return text
}

// dayAt is the day whose date stands at a place of a command's words.
func dayAt(c api.Command, i int) int {
	n, _ := day.Parse(c.Args[i])
	return n
}
