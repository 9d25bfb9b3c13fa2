package book

import (
	"daybook/api"
	"daybook/chart"
)

// kind is a row of the table of kinds.
type kind struct {
	refuse func(*Book, api.Event) api.Errno  // of a valid event
	lines  func(*Book, api.Event) []api.Line // what rows are made of, when it is taken
	keep   func(*Book, api.Event)            // when it is taken, all but its rows and its key
	read   func(*reader, []api.Posting) bool // a base's group of the kind, which has all that 7.1 asks of any group
}

// kinds has a row for each kind's number.
func kinds() [api.KLock + 1]kind {
	return [...]kind{
		api.KOpen:    {(*Book).refuseOpen, (*Book).noLines, (*Book).keepOpen, (*reader).noRows},
		api.KClose:   {(*Book).refuseClose, (*Book).noLines, (*Book).keepClose, (*reader).noRows},
		api.KPost:    {(*Book).refusePost, (*Book).postLines, (*Book).keepPost, (*reader).readPost},
		api.KVoid:    {(*Book).refuseVoid, (*Book).voidLines, (*Book).keepVoid, (*reader).readVoid},
		api.KInvoice: {(*Book).refuseInvoice, (*Book).invoiceLines, (*Book).keepInvoice, (*reader).readInvoice},
		api.KPay:     {(*Book).refusePay, (*Book).payLines, (*Book).keepPay, (*reader).readPay},
		api.KAllot:   {(*Book).refuseAllot, (*Book).noLines, (*Book).keepAllot, (*reader).noRows},
		api.KLock:    {(*Book).refuseLock, (*Book).noLines, (*Book).keepLock, (*reader).noRows},
	}
}

func (b *Book) refuseOpen(e api.Event) api.Errno {
	if _, is := b.chart.Find(e.Account); is {
		return api.ErrExists
	}
	if len(b.chart.Accounts()) >= api.MaxAccounts {
		return api.ErrMany
	}
	if above, below := chart.Parent(e.Account); below {
		return b.chart.May(above, e.Day)
	}
	return api.OK
}

func (b *Book) keepOpen(e api.Event) { b.chart.Open(e.Account, e.Type, e.Day) }

func (b *Book) refuseClose(e api.Event) api.Errno {
	account, is := b.chart.Find(e.Account)
	held := b.holdings[e.Account]
	switch {
	case !is:
		return api.ErrUnknown
	case account.Closed:
		return api.ErrClosed
	case b.openBelow(e.Account) || held.own != 0 || held.left != 0:
		return api.ErrUse
	case e.Day < account.Opened || e.Day < held.last:
		return api.ErrEarly
	}
	return api.OK
}

// openBelow looks right below alone: where an account is closed, all below it are.
func (b *Book) openBelow(name string) bool {
	for _, kid := range b.chart.Kids(name) {
		if account, _ := b.chart.Find(kid); !account.Closed {
			return true
		}
	}
	return false
}

func (b *Book) keepClose(e api.Event) { b.chart.Close(e.Account) }

func (b *Book) refusePost(e api.Event) api.Errno {
	if why := b.mayAll(e.Lines, e.Day); why != api.OK {
		return why
	}
	if !balanced(e.Lines) {
		return api.ErrBalance
	}
	return b.room(e.Lines)
}

// mayAll is the first reason for which rows of that day may not go to the lines' accounts.
func (b *Book) mayAll(lines []api.Line, day int) api.Errno {
	for _, l := range lines {
		if why := b.chart.May(l.Account, day); why != api.OK {
			return why
		}
	}
	return api.OK
}

func (b *Book) postLines(e api.Event) []api.Line { return e.Lines }

func (b *Book) keepPost(e api.Event) {
	b.enterEntry(api.Entry{Key: e.Key, Day: e.Day, Lines: e.Lines})
}

func (b *Book) refuseVoid(e api.Event) api.Errno {
	posted := b.posted[e.Ref]
	switch {
	case posted == nil:
		return api.ErrRef
	case posted.Void != "":
		return api.ErrVoided
	case e.Day < posted.Day:
		return api.ErrEarly
	}
	if why := b.mayAll(posted.Lines, e.Day); why != api.OK {
		return why
	}
	return b.room(posted.Lines)
}

func (b *Book) voidLines(e api.Event) []api.Line { return opposites(b.posted[e.Ref].Lines) }

func (b *Book) keepVoid(e api.Event) { b.posted[e.Ref].Void = e.Key }

func (b *Book) refuseInvoice(e api.Event) api.Errno { return b.refuseClaim(e, api.Income) }

func (b *Book) refusePay(e api.Event) api.Errno { return b.refuseClaim(e, api.Asset) }

// refuseClaim is of an invoice or a payment, whose Other is of that type. Account is looked at first, of a payment too, whose rows stand the other way round.
func (b *Book) refuseClaim(e api.Event, other int) api.Errno {
	lines := b.invoiceLines(e)
	if why := b.mayAll(lines, e.Day); why != api.OK {
		return why
	}
	if !b.typed(e.Account, api.Asset) || !b.typed(e.Other, other) {
		return api.ErrType
	}
	return b.room(lines)
}

// typed tells whether an account is of that type.
func (b *Book) typed(name string, typ int) bool {
	account, _ := b.chart.Find(name)
	return account.Type == typ
}

func (b *Book) invoiceLines(e api.Event) []api.Line {
	return []api.Line{{Account: e.Account, Amount: e.Amount}, {Account: e.Other, Amount: -e.Amount}}
}

func (b *Book) payLines(e api.Event) []api.Line {
	return []api.Line{{Account: e.Other, Amount: e.Amount}, {Account: e.Account, Amount: -e.Amount}}
}

func (b *Book) keepInvoice(e api.Event) {
	b.enterInvoice(api.Claim{Key: e.Key, Account: e.Account, Day: e.Day, Due: e.Due, Amount: e.Amount})
}

func (b *Book) keepPay(e api.Event) {
	b.enterPayment(api.Claim{Key: e.Key, Account: e.Account, Day: e.Day, Amount: e.Amount})
}

func (b *Book) refuseAllot(e api.Event) api.Errno {
	pay, invoice := b.payment(e.Ref), b.invoice(e.Ref2)
	switch {
	case pay == nil || invoice == nil:
		return api.ErrRef
	case pay.Account != invoice.Account:
		return api.ErrMix
	case e.Day < pay.Day || e.Day < invoice.Day:
		return api.ErrEarly
	case e.Amount > pay.left || e.Amount > invoice.left:
		return api.ErrOver
	}
	return api.OK
}

func (b *Book) keepAllot(e api.Event) {
	b.enterAllot(api.Allot{Pay: e.Ref, Invoice: e.Ref2, Day: e.Day, Amount: e.Amount})
}

func (b *Book) refuseLock(e api.Event) api.Errno {
	if e.Day <= b.lock {
		return api.ErrEarly
	}
	return api.OK
}

func (b *Book) keepLock(e api.Event) { b.lock = e.Day }

func (b *Book) noLines(api.Event) []api.Line { return nil }
