package audit

import (
	"strings"

	"daybook/api"
	"daybook/event"
	"daybook/paper"
)

// The rules, by their numbers.
const (
	noRule = iota
	formRule
	whoRule
	numbersRule
	durableRule
	eventsRule
	onceRule
	trialRule
	balancesRule
	claimsRule
	accountsRule
	againRule
	rebuildRule
	powerRule
)

// rule tells whether an answer breaks it. It is asked only of answers that break none ahead of it.
type rule func(*machine, told) bool

// breaksNumbers is rule 3.
func (m *machine) breaksNumbers(t told) bool {
	switch {
	case t.isOkOf(lenWord):
		return t.number(1) != len(m.events)
	case t.isOkOf(submitWord):
		e, why := event.Parse(t.Text, m.digits)
		m.coming = []api.Event{e}
		return why != api.OK || t.number(1) != len(m.events)+1
	case t.Word == importWord && !t.isClosed():
		return m.breaksImport(t)
	}
	return false
}

// breaksImport is rule 3 of an import. A journal with a fault has no events.
func (m *machine) breaksImport(t told) bool {
	journal, fault := paper.Parse(t.Text, m.digits)
	taken := t.taken()
	if taken < 0 || taken > len(journal) {
		return true
	}
	m.coming = journal[:taken]
	return t.isOk() && (fault != nil || taken < len(journal))
}

// breaksDurable is rule 4.
func (m *machine) breaksDurable(t told) bool {
	switch {
	case t.isOkOf(firstWord):
		return t.number(1) != 0
	case t.isOkOf(reopenWord):
		more := t.number(1) - len(m.events)
		if more == len(m.pending) {
			m.coming = m.pending
			return false
		}
		return more != 0
	}
	return false
}

// breaksEvents is rule 5.
func (m *machine) breaksEvents(t told) bool {
	if t.Word != eventWord {
		return false
	}
	n := numberOf(t.Args[0])
	if t.isOk() {
		return !m.has(n) || m.line(n) != strings.Join(t.words[1:], blank)
	}
	return t.isError(api.ErrNoRecord) && m.has(n)
}

// breaksOnce is rule 6; here the events that come are put behind the others.
func (m *machine) breaksOnce(told) bool {
	for _, e := range m.coming {
		if !m.put(e) {
			return true
		}
	}
	return false
}

// breaksTrial is rule 7.
func (m *machine) breaksTrial(t told) bool { return t.isOkOf("trial") && !t.is(m.trial()) }

// breaksBalances is rule 8.
func (m *machine) breaksBalances(t told) bool {
	switch {
	case t.isOkOf("rollup"):
		return !t.is(m.rollup(t.Args[0]))
	case t.isOkOf("daily"):
		return !t.is(m.daily(t.Args[0], t.day(1), t.day(2)))
	}
	return false
}

// breaksClaims is rule 9.
func (m *machine) breaksClaims(t told) bool {
	switch {
	case t.isOkOf("aged"):
		return !t.is(m.aged(t.Args[0], t.day(1)))
	case t.isOkOf("open"):
		return !t.is(m.open(t.Args[0], t.day(1)))
	case t.isOkOf("left"):
		return !t.is(m.left(t.Args[0]))
	}
	return false
}

// breaksAccounts is rule 10.
func (m *machine) breaksAccounts(t told) bool { return t.isOkOf("accounts") && !t.is(m.accounts()) }

// breaksAgain is rule 11.
func (m *machine) breaksAgain(t told) bool {
	if t.isClosed() || t.isError(api.ErrDown) {
		return false
	}
	before, is := m.asked[t.question()]
	return is && !t.is(before)
}

// breaksRebuild is rule 12.
func (m *machine) breaksRebuild(t told) bool {
	switch {
	case t.isOkOf(rebuildWord):
		gen, busy, at, of := t.number(1), t.number(2), t.number(3), t.number(4)
		if busy == 0 {
			return of != len(m.events) || at != 0 || gen != m.gen+1
		}
		return of != len(m.events) || gen != m.gen || at <= m.at || at > of || at > m.at+numberOf(t.Args[0])
	case t.isOkOf(statusWord):
		gen, busy, at, of, readOnly := t.number(1), t.number(2), t.number(3), t.number(4), t.number(5)
		return of != len(m.events) || gen != m.gen || at != m.at || (busy == 1) != (m.at > 0) || m.full && readOnly == 0
	}
	return false
}

// breaksFull is rule 13 of a ledger that is not down.
func (m *machine) breaksFull(t told) bool {
	return m.full && t.takes() && !t.isError(api.ErrReadOnly) && !t.isError(api.ErrDown)
}

// breaksDown is rule 13 of a ledger that is down.
func (m *machine) breaksDown(t told) bool {
	return t.form.onLedger && t.Word != lenWord && t.Word != statusWord && !t.isError(api.ErrDown)
}
