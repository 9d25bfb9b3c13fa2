package answer

import (
	"strings"

	"daybook/api"
	"daybook/day"
	"daybook/money"
)

// fieldAt is what a field is worth at a row.
func fieldAt(field int, row api.Posting) api.Cell {
	switch field {
	case api.FSeq:
		return numberOf(api.TNum, int64(row.Seq))
	case api.FLine:
		return numberOf(api.TNum, int64(row.Line))
	case api.FKind:
		return numberOf(api.TNum, int64(row.Kind))
	case api.FKey:
		return textOf(row.Key)
	case api.FAccount:
		return textOf(row.Account)
	case api.FTag:
		return textOf(row.Tag)
	case api.FMemo:
		return textOf(row.Memo)
	case api.FRoot:
		root, _, _ := strings.Cut(row.Account, ":")
		return textOf(root)
	case api.FAmount, api.FDebit, api.FCredit:
		return amountAt(field, row.Amount)
	}
	return dayAt(field, row.Day)
}

// amountAt is what the amount and its two sides are worth.
func amountAt(field int, amount int64) api.Cell {
	side := amount
	switch field {
	case api.FDebit:
		side = max(amount, 0)
	case api.FCredit:
		side = max(-amount, 0)
	}
	return fitting(money.Check(amount) == api.OK, api.Cell{Type: api.TMoney, Num: side})
}

// dayAt is what the day, its month and its year are worth.
func dayAt(field int, n int) api.Cell {
	date, why := day.To(n)
	c := api.Cell{Type: api.TNum}
	switch field {
	case api.FDay:
		c = api.Cell{Type: api.TDay, Num: int64(n)}
	case api.FMonth:
		c.Num = int64(100*date.Year + date.Month)
	case api.FYear:
		c.Num = int64(date.Year)
	}
	return fitting(why == api.OK, c)
}
