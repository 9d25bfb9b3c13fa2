package audit

import "daybook/api"

// machine goes through a trace, answer by answer, and keeps what it learns.
type machine struct {
	// state is what there is to answer. It looks at the next answer: the first rule that this breaks; or what it tells is learnt.
	state func(*machine, told) int
	books
	coming  []api.Event // those that the answer that is looked at puts behind the events
	pending []api.Event // none; or the one of which no answer has told yet whether it was taken
	full    bool
	gen, at int
	asked   map[question]answer
}

// machineFor is a machine ahead of the first line's answer.
func machineFor(first api.Command) *machine {
	m := &machine{state: (*machine).beginning, books: booksOf(numberOf(first.Args[2]))}
	if capacity := numberOf(first.Args[0]); capacity < 0 || capacity > api.MaxDisk {
		m.state = (*machine).beginningDiskless
	}
	return m
}

// beginning: there is a disk, and the first line is to be answered.
func (m *machine) beginning(t told) int {
	return m.look(t, saysClosed, isNever, (*machine).learnOfDisk)
}

// beginningDiskless: there is no disk, and the first line is to be answered.
func (m *machine) beginningDiskless(t told) int {
	return m.look(t, saysDisk, isNever, (*machine).learnNoDisk)
}

// diskless: there is nothing to answer.
func (m *machine) diskless(t told) int {
	return m.look(t, saysSomething, isNever, (*machine).learnNoDisk)
}

// shut: there is a disk, but no ledger on it.
func (m *machine) shut(t told) int {
	return m.look(t, saysLedger, isNever, (*machine).learnOfDisk)
}

// running: there is a ledger that is not down.
func (m *machine) running(t told) int {
	return m.look(t, saysClosed, (*machine).breaksFull, (*machine).learnRunning)
}

// down: there is a ledger that is down.
func (m *machine) down(t told) int {
	return m.look(t, saysClosed, (*machine).breaksDown, (*machine).learnOfLedger)
}

// look holds an answer against the rules. Who can answer, what power and room let them, and what is learnt, hang on the state.
func (m *machine) look(t told, who, power rule, learn func(*machine, told)) int {
	m.coming = nil
	rules := [...]rule{
		formRule:     (*machine).breaksForm,
		whoRule:      who,
		numbersRule:  (*machine).breaksNumbers,
		durableRule:  (*machine).breaksDurable,
		eventsRule:   (*machine).breaksEvents,
		onceRule:     (*machine).breaksOnce,
		trialRule:    (*machine).breaksTrial,
		balancesRule: (*machine).breaksBalances,
		claimsRule:   (*machine).breaksClaims,
		accountsRule: (*machine).breaksAccounts,
		againRule:    (*machine).breaksAgain,
		rebuildRule:  (*machine).breaksRebuild,
		powerRule:    power,
	}
	for number := formRule; number <= powerRule; number++ {
		if rules[number](m, t) {
			return number
		}
	}
	learn(m, t)
	return noRule
}

// saysClosed: rule 2, where there is what every command works on.
func saysClosed(_ *machine, t told) bool { return t.isClosed() }

// saysDisk: rule 2, of the first line, where there is no disk.
func saysDisk(_ *machine, t told) bool { return !t.isError(api.ErrArg) }

// saysSomething: rule 2, where there is no disk.
func saysSomething(_ *machine, t told) bool { return !t.isClosed() }

// saysLedger: rule 2, where there is a disk, and no ledger.
func saysLedger(_ *machine, t told) bool { return t.isClosed() != t.form.onLedger }

// isNever: rule 13, where there is no ledger.
func isNever(*machine, told) bool { return false }
