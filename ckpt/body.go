package ckpt

import "daybook/api"

// visitor goes through what a body holds, in its order: one writes it, one reads it. So the order stands in one place.
type visitor interface {
	number(n *int)
	amount(n *int64)
	text(s *string)
	flag(f *bool)
	// length: through how many parts of a list to go; n: how many it has now; least: the fewest bytes that a part can have.
	length(n, least int) int
}

// list goes through a list's parts.
func list[T any](v visitor, l *[]T, least int, part func(v visitor, t *T)) {
	n := v.length(len(*l), least)
	if n > len(*l) { // only where it is read, and is empty: what is written is not touched
		*l = make([]T, n)
	}
	for i := range n {
		part(v, &(*l)[i])
	}
}

// visit goes through a Snap.
func visit(v visitor, s *api.Snap) {
	visitBase(v, &s.Base)
	list(v, &s.Balances, 3, visitBalance)
	list(v, &s.Days, 4, visitDay)
	list(v, &s.Claims, 5, visitClaim)
	list(v, &s.Allots, 4, visitAllot)
	v.number(&s.AsOf)
}

func visitBase(v visitor, b *api.Base) {
	v.number(&b.Events)
	list(v, &b.Keys, 1, visitor.text)
	list(v, &b.Accounts, 4, visitAccount)
	list(v, &b.Rows, 9, visitRow)
	list(v, &b.Entries, 4, visitEntry)
	list(v, &b.Invoices, 5, visitClaim)
	list(v, &b.Payments, 5, visitClaim)
	list(v, &b.Allots, 4, visitAllot)
	v.number(&b.Lock)
}

func visitAccount(v visitor, a *api.Account) {
	v.text(&a.Name)
	v.number(&a.Type)
	v.number(&a.Opened)
	v.flag(&a.Closed)
}

func visitRow(v visitor, p *api.Posting) {
	v.number(&p.Seq)
	v.number(&p.Line)
	v.number(&p.Day)
	v.number(&p.Kind)
	v.text(&p.Key)
	v.text(&p.Account)
	v.amount(&p.Amount)
	v.text(&p.Tag)
	v.text(&p.Memo)
}

func visitEntry(v visitor, e *api.Entry) {
	v.text(&e.Key)
	v.number(&e.Day)
	list(v, &e.Lines, 3, visitLine)
	v.text(&e.Void)
}

func visitLine(v visitor, l *api.Line) {
	v.text(&l.Account)
	v.amount(&l.Amount)
	v.text(&l.Tag)
}

func visitClaim(v visitor, c *api.Claim) {
	v.text(&c.Key)
	v.text(&c.Account)
	v.number(&c.Day)
	v.number(&c.Due)
	v.amount(&c.Amount)
}

func visitAllot(v visitor, a *api.Allot) {
	v.text(&a.Pay)
	v.text(&a.Invoice)
	v.number(&a.Day)
	v.amount(&a.Amount)
}

func visitBalance(v visitor, b *api.Balance) {
	v.text(&b.Account)
	v.amount(&b.Own)
	v.amount(&b.Rollup)
}

func visitDay(v visitor, d *api.DayRow) {
	v.text(&d.Account)
	v.number(&d.Day)
	v.amount(&d.Change)
	v.amount(&d.Balance)
}
