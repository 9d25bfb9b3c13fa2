package audit

import (
	"daybook/api"
	"daybook/event"
)

// books is the list of events that the answers have told, and what follows from their rows.
type books struct {
	digits int
	events []api.Event
	keys   map[string]int          // of each key the number of its event
	own    map[string]wide         // own balances
	days   map[string]map[int]wide // of each account the changes of its days
}

func booksOf(digits int) books {
	return books{digits: digits, keys: map[string]int{}, own: map[string]wide{}, days: map[string]map[int]wide{}}
}

// put puts an event behind the others; false, if one of these has its key.
func (b *books) put(e api.Event) bool {
	if _, is := b.keys[e.Key]; is {
		return false
	}
	for _, row := range b.rowsOf(e) {
		b.add(row, e.Day)
	}
	b.events = append(b.events, e)
	if e.Key != "" {
		b.keys[e.Key] = len(b.events)
	}
	return true
}

func (b *books) add(row api.Line, day int) {
	amount := wideOf(row.Amount)
	b.own[row.Account] = b.own[row.Account].plus(amount)
	if b.days[row.Account] == nil {
		b.days[row.Account] = map[int]wide{}
	}
	b.days[row.Account][day] = b.days[row.Account][day].plus(amount)
}

// rowsOf is the accounts and amounts of the rows that an event makes.
func (b *books) rowsOf(e api.Event) []api.Line {
	switch e.Kind {
	case api.KPost:
		return e.Lines
	case api.KVoid:
		return opposite(b.posted(e.Ref))
	case api.KInvoice:
		return []api.Line{{Account: e.Account, Amount: e.Amount}, {Account: e.Other, Amount: -e.Amount}}
	case api.KPay:
		return []api.Line{{Account: e.Other, Amount: e.Amount}, {Account: e.Account, Amount: -e.Amount}}
	}
	return nil
}

// posted is the lines of the posting that has a key; none, if there is no such one. (No two events have one key: that breaks a rule.)
func (b *books) posted(key string) []api.Line {
	n, is := b.keys[key]
	if !is || b.events[n-1].Kind != api.KPost {
		return nil
	}
	return b.events[n-1].Lines
}

// opposite is the lines with the signs turned about; each amount of an event has its opposite.
func opposite(lines []api.Line) []api.Line {
	var l []api.Line
	for _, line := range lines {
		l = append(l, api.Line{Account: line.Account, Amount: -line.Amount})
	}
	return l
}

// has tells whether there is an event of that number.
func (b *books) has(n int) bool { return n >= 1 && n <= len(b.events) }

// line is the text of the event of a number that there is.
func (b *books) line(n int) string {
	s, _ := event.Print(b.events[n-1], b.digits)
	return s
}
