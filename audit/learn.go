package audit

import (
	"strings"

	"daybook/api"
	"daybook/event"
	"daybook/paper"
)

// question is a command that only asks, as it was asked.
type question struct{ word, args, text string }

func (t told) question() question {
	return question{t.Word, strings.Join(t.Args, blank), t.Text}
}

// learnNoDisk: from an answer where there is no disk.
func (m *machine) learnNoDisk(told) { m.state = (*machine).diskless }

// learnOfDisk: whether there is a ledger.
func (m *machine) learnOfDisk(t told) {
	switch t.Word {
	case firstWord, reopenWord:
		m.state = (*machine).shut
		if t.isOk() {
			m.begin()
		}
	case "crash", "lose", "turn":
		if t.isOk() {
			m.state = (*machine).shut
		}
	}
}

// begin: a ledger is opened.
func (m *machine) begin() {
	m.state = (*machine).running
	m.pending, m.full, m.gen, m.at = nil, false, 0, 0
	m.forget()
}

// forget: what was asked may be answered otherwise from now on.
func (m *machine) forget() { m.asked = map[question]answer{} }

// learnRunning: from an answer while there is a ledger that is not down.
func (m *machine) learnRunning(t told) {
	switch {
	case t.takes() && t.isError(api.ErrFull):
		m.full = true
	case t.isOkOf("trim") && t.number(1) > 0:
		m.full = false
	case t.Word == rebuildWord && !t.isOk() && numberOf(t.Args[0]) >= 1:
		m.at = 0
	}
	if t.form.onLedger && t.isError(api.ErrDown) {
		m.state = (*machine).down
		m.pending = m.cutOff(t)
		m.forget()
	}
	m.learnOfLedger(t)
}

// cutOff is the event in the midst of which the ledger went down; none, if it was in the midst of none.
func (m *machine) cutOff(t told) []api.Event {
	switch t.Word {
	case submitWord:
		if e, why := event.Parse(t.Text, m.digits); why == api.OK {
			return []api.Event{e}
		}
	case importWord:
		journal, _ := paper.Parse(t.Text, m.digits)
		if taken := t.taken(); taken < len(journal) {
			return journal[taken : taken+1]
		}
	}
	return nil
}

// learnOfLedger: from an answer while there is a ledger.
func (m *machine) learnOfLedger(t told) {
	if len(m.coming) > 0 {
		m.forget()
	}
	if t.form.asks {
		m.asked[t.question()] = t.answer
	}
	if t.isOkOf(rebuildWord) || t.isOkOf(statusWord) {
		m.gen, m.at = t.number(1), t.number(3)
	}
	m.learnOfDisk(t)
}
