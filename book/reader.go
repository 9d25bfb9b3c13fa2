package book

import (
	"iter"
	"maps"
	"slices"

	"daybook/api"
	"daybook/chart"
	"daybook/money"
	"daybook/names"
)

// reader makes books of a base, piece by piece, as long as no rule of 7.1 is broken.
type reader struct {
	*Book
	base   api.Base
	unmet  map[string]struct{} // the keys that no group has had so far
	voids  map[string]int      // by each Void: where its entry stands
	voided int                 // how many groups of KVoid there were
}

// readAll tells whether the base is valid, and then the books are made. The rules' numbers are 7.1's.
func (r *reader) readAll() bool {
	r.ready()
	return r.readNumbers() && r.readKeys() && r.readAccounts() && r.findVoids() && r.readRows() && r.isWhole() && r.readAllots() && r.closedAreEmpty()
}

// readNumbers: rule 1.
func (r *reader) readNumbers() bool {
	r.events, r.lock = r.base.Events, r.base.Lock
	return r.events >= 0 && r.events <= api.MaxEvents && (r.lock == 0 || isDay(r.lock))
}

// readKeys: rule 2, but for how many there are.
func (r *reader) readKeys() bool {
	for _, key := range r.base.Keys {
		if _, twice := r.used[key]; twice || !names.IsKey(key) {
			return false
		}
		r.use(key)
	}
	r.unmet = maps.Clone(r.used)
	return true
}

// readAccounts: rule 3.
func (r *reader) readAccounts() bool {
	c, why := chart.From(r.base.Accounts)
	if why != api.OK {
		return false
	}
	r.chart = *c
	others := len(r.keys)
	for _, a := range r.base.Accounts {
		if a.Closed {
			others++
		}
	}
	if r.lock != 0 {
		others++
	}
	return len(r.base.Accounts) <= r.events-others
}

// findVoids: of rule 6, that no two entries have the same Void.
func (r *reader) findVoids() bool {
	r.voids = map[string]int{}
	for i, e := range r.base.Entries {
		if e.Void == "" {
			continue
		}
		if _, twice := r.voids[e.Void]; twice {
			return false
		}
		r.voids[e.Void] = i
	}
	return true
}

// readRows: rules 4 to 7, but for what the lists may have beyond the groups.
func (r *reader) readRows() bool {
	last := 0
	for group := range groups(r.base.Rows) {
		number := group[0].Seq
		if number <= last || number > r.events || !r.readGroup(group) {
			return false
		}
		last = number
	}
	return true
}

// groups gives the rows that stand together and have one Seq.
func groups(rows []api.Posting) iter.Seq[[]api.Posting] {
	return func(yield func([]api.Posting) bool) {
		for from, to := 0, 0; from < len(rows); from = to {
			for to < len(rows) && rows[to].Seq == rows[from].Seq {
				to++
			}
			if !yield(rows[from:to]) {
				return
			}
		}
	}
}

func (r *reader) readGroup(group []api.Posting) bool {
	head := group[0]
	_, unmet := r.unmet[head.Key]
	if !unmet || !isDay(head.Day) || !names.IsMemo(head.Memo) || head.Kind < api.KOpen || head.Kind > api.KLock {
		return false
	}
	for i, row := range group {
		if !r.isRow(row, head, i+1) {
			return false
		}
	}
	lines := linesOf(group)
	if !balanced(lines) || r.room(lines) != api.OK || !kinds()[head.Kind].read(r, group) {
		return false
	}
	delete(r.unmet, head.Key)
	r.enter(group)
	return true
}

// isRow tells whether a row can be the one with that Line in a group with such a head.
func (r *reader) isRow(row, head api.Posting, line int) bool {
	head.Line, head.Account, head.Amount, head.Tag = line, row.Account, row.Amount, row.Tag
	account, is := r.chart.Find(row.Account)
	return row == head && is && account.Opened <= row.Day && row.Amount != 0 && money.Check(row.Amount) == api.OK && names.IsTag(row.Tag)
}

func (r *reader) noRows([]api.Posting) bool { return false }

func (r *reader) readPost(rows []api.Posting) bool {
	at, lines := len(r.entries), linesOf(rows)
	if at >= len(r.base.Entries) || !isPosting(lines) {
		return false
	}
	e := r.base.Entries[at]
	if e.Key != rows[0].Key || e.Day != rows[0].Day || !slices.Equal(e.Lines, lines) {
		return false
	}
	r.enterEntry(e)
	return true
}

// readVoid finds the entry only where it was read before: else it is not the one that stands ahead.
func (r *reader) readVoid(rows []api.Posting) bool {
	at, is := r.voids[rows[0].Key]
	lines := linesOf(rows)
	if !is || at >= len(r.entries) || !isPosting(lines) {
		return false
	}
	e := r.entries[at]
	r.voided++
	return e.Day <= rows[0].Day && slices.Equal(opposites(e.Lines), lines)
}

// isPosting tells whether there are as many lines as a posting may have.
func isPosting(lines []api.Line) bool { return len(lines) >= 2 && len(lines) <= api.MaxLines }

func (r *reader) readInvoice(rows []api.Posting) bool {
	at := len(r.invoices)
	if at >= len(r.base.Invoices) || !r.isClaim(rows, api.Income) {
		return false
	}
	c, head := r.base.Invoices[at], rows[0]
	if !isDay(c.Due) || c.Due < head.Day || c != (api.Claim{Key: head.Key, Account: head.Account, Day: head.Day, Due: c.Due, Amount: head.Amount}) {
		return false
	}
	r.enterInvoice(c)
	return true
}

func (r *reader) readPay(rows []api.Posting) bool {
	at := len(r.payments)
	if at >= len(r.base.Payments) || !r.isClaim(rows, api.Asset) {
		return false
	}
	c, head := r.base.Payments[at], rows[0]
	if c != (api.Claim{Key: head.Key, Account: rows[1].Account, Day: head.Day, Amount: head.Amount}) {
		return false
	}
	r.enterPayment(c)
	return true
}

// isClaim: rule 5 of an invoice or a payment, whose second row's account is of that type.
func (r *reader) isClaim(rows []api.Posting, second int) bool {
	return len(rows) == 2 && rows[0].Tag == "" && rows[1].Tag == "" && rows[0].Account != rows[1].Account && rows[0].Amount > 0 &&
		r.typed(rows[0].Account, api.Asset) && r.typed(rows[1].Account, second)
}

// isWhole tells whether the lists have nothing beyond the groups, and whether there are as many keys as there must be.
func (r *reader) isWhole() bool {
	return len(r.entries) == len(r.base.Entries) && len(r.voids) == r.voided && len(r.invoices) == len(r.base.Invoices) && len(r.payments) == len(r.base.Payments) &&
		len(r.unmet) == len(r.base.Allots)
}

// readAllots: rule 8, by what an event would be refused for: the sums of the Amounts don't hang on their order.
func (r *reader) readAllots() bool {
	for _, a := range r.base.Allots {
		e := api.Event{Kind: api.KAllot, Day: a.Day, Ref: a.Pay, Ref2: a.Invoice, Amount: a.Amount}
		if !isDay(a.Day) || a.Amount <= 0 || r.refuseAllot(e) != api.OK {
			return false
		}
		r.enterAllot(a)
	}
	return true
}

// closedAreEmpty: rule 9.
func (r *reader) closedAreEmpty() bool {
	for _, a := range r.base.Accounts {
		if held := r.holdings[a.Name]; a.Closed && (held.own != 0 || held.left != 0) {
			return false
		}
	}
	return true
}

func isDay(n int) bool { return n >= api.MinDay && n <= api.MaxDay }
