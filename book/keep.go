package book

import (
	"slices"

	"daybook/api"
	"daybook/money"
)

// ready makes the maps, which the zero value has not.
func (b *Book) ready() {
	if b.used == nil {
		b.used = map[string]struct{}{}
		b.holdings = map[string]holding{}
		b.posted = map[string]*api.Entry{}
		b.claims = map[string]*claim{}
	}
}

// use keeps a key.
func (b *Book) use(key string) {
	b.keys = append(b.keys, key)
	b.used[key] = struct{}{}
}

// enter keeps rows. No sum overflows here: the turnover's bound, which was looked at before, is above each of them.
func (b *Book) enter(rows []api.Posting) {
	b.rows = append(b.rows, rows...)
	for _, row := range rows {
		h := b.holdings[row.Account]
		h.own += row.Amount
		h.last = max(h.last, row.Day)
		b.holdings[row.Account] = h
		b.turnover += size(row.Amount)
	}
}

// enterEntry keeps a posting that may be voided.
func (b *Book) enterEntry(e api.Entry) {
	e = copied(e)
	b.entries = append(b.entries, &e)
	b.posted[e.Key] = &e
}

// enterInvoice keeps an invoice, of which all is left.
func (b *Book) enterInvoice(c api.Claim) {
	b.invoices = append(b.invoices, b.enterClaim(c))
}

// enterPayment keeps a payment, of which all is left.
func (b *Book) enterPayment(c api.Claim) {
	b.payments = append(b.payments, b.enterClaim(c))
}

func (b *Book) enterClaim(c api.Claim) *claim {
	kept := &claim{Claim: c, left: c.Amount}
	b.claims[kept.Key] = kept
	b.addLeft(kept.Account, kept.left)
	return kept
}

// enterAllot keeps an allotment, and takes it from what is left of both claims.
func (b *Book) enterAllot(a api.Allot) {
	b.allots = append(b.allots, a)
	for _, key := range []string{a.Pay, a.Invoice} {
		c := b.claims[key]
		c.left -= a.Amount
		b.addLeft(c.Account, -a.Amount)
	}
}

func (b *Book) addLeft(account string, amount int64) {
	h := b.holdings[account]
	h.left += amount
	b.holdings[account] = h
}

// payment finds one by its key; nil: the key is none's.
func (b *Book) payment(key string) *claim {
	if c := b.claims[key]; c != nil && c.isPayment() {
		return c
	}
	return nil
}

// invoice finds one by its key; nil: the key is none's.
func (b *Book) invoice(key string) *claim {
	if c := b.claims[key]; c != nil && !c.isPayment() {
		return c
	}
	return nil
}

// isPayment: an invoice is due on a day, and no day is 0.
func (c *claim) isPayment() bool { return c.Due == 0 }

// told is what the books tell of claims.
func told(l []*claim) []api.Claim {
	var claims []api.Claim
	for _, c := range l {
		claims = append(claims, c.Claim)
	}
	return claims
}

// copied is an entry with lines of its own.
func copied(e api.Entry) api.Entry {
	e.Lines = slices.Clone(e.Lines)
	return e
}

// rowsOf is the rows that an event with such a number makes of lines.
func rowsOf(e api.Event, number int, lines []api.Line) []api.Posting {
	var rows []api.Posting
	for i, l := range lines {
		rows = append(rows, api.Posting{
			Seq: number, Line: i + 1, Day: e.Day, Kind: e.Kind, Key: e.Key,
			Account: l.Account, Amount: l.Amount, Tag: l.Tag, Memo: e.Memo,
		})
	}
	return rows
}

// linesOf is the lines of which rows were made.
func linesOf(rows []api.Posting) []api.Line {
	var lines []api.Line
	for _, row := range rows {
		lines = append(lines, api.Line{Account: row.Account, Amount: row.Amount, Tag: row.Tag})
	}
	return lines
}

// opposites is the lines that take lines back.
func opposites(lines []api.Line) []api.Line {
	lines = slices.Clone(lines)
	for i := range lines {
		lines[i].Amount = -lines[i].Amount
	}
	return lines
}

// balanced tells whether the lines' sum is 0; one that does not fit is not.
func balanced(lines []api.Line) bool {
	var amounts []int64
	for _, l := range lines {
		amounts = append(amounts, l.Amount)
	}
	sum, why := money.Sum(amounts)
	return sum == 0 && why == api.OK
}

// room is ErrOverflow, if the turnover with such lines would be too much.
func (b *Book) room(lines []api.Line) api.Errno {
	sizes := []int64{b.turnover}
	for _, l := range lines {
		sizes = append(sizes, size(l.Amount))
	}
	_, why := money.Sum(sizes)
	return why
}

// size is an amount without its sign.
func size(a int64) int64 { return max(a, -a) }
