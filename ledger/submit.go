package ledger

import (
	"daybook/api"
	"daybook/event"
	"daybook/paper"
)

// imported is how many events of a journal were taken, and the fault for which it was not read.
type imported struct {
	taken int
	fault error
}

// submit takes an event. It is told to the books only when it is durable.
func (l *Ledger) submit(e api.Event) (int, api.Errno) {
	if l.readOnly {
		return 0, api.ErrReadOnly
	}
	if why := l.set.Book().Check(e); why != api.OK {
		return 0, why
	}
	if why := l.write(e); why != api.OK {
		return 0, why
	}
	l.set.Apply(e) // which takes what Check lets in
	return l.count(), api.OK
}

// submitLine takes an event's line.
func (l *Ledger) submitLine(s string) (int, api.Errno) {
	if l.readOnly {
		return 0, api.ErrReadOnly
	}
	e, why := event.Parse(s, l.digits)
	if why != api.OK {
		return 0, why
	}
	return l.submit(e)
}

// importText takes a journal's events, up to the first that is refused.
func (l *Ledger) importText(s string) (imported, api.Errno) {
	if l.readOnly {
		return imported{}, api.ErrReadOnly
	}
	events, fault := paper.Parse(s, l.digits)
	if fault != nil {
		return imported{fault: fault}, api.OK
	}
	for i, e := range events {
		if _, why := l.submit(e); why != api.OK {
			return imported{taken: i}, why
		}
	}
	return imported{taken: len(events)}, api.OK
}
