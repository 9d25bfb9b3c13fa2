package script

import (
	"errors"
	"strconv"

	"daybook/api"
	"daybook/event"
)

func (p *player) submit(c api.Command) answer { return counted(p.ledger.Text(c.Text)) }

func (p *player) length(api.Command) answer { return counted(p.ledger.Len(), api.OK) }

func (p *player) event(c api.Command) answer {
	e, why := p.ledger.Event(numberAt(c, 0))
	if why != api.OK {
		return failed(why)
	}
	line, why := event.Print(e, p.settings.Digits)
	if why != api.OK {
		return failed(why)
	}
	return good(line)
}

func (p *player) export(api.Command) answer { return quoted(p.ledger.Export()) }

func (p *player) importJournal(c api.Command) answer {
	taken, err := p.ledger.Import(c.Text)
	if err == nil {
		return counted(taken, api.OK)
	}
	fault := faultOf(err)
	return failed(fault.Why, taken, fault.Line, fault.At)
}

// faultOf is an import's error with its place: 0, 0, where it is the books' and has none.
func faultOf(err error) api.Fault {
	var fault *api.Fault
	if errors.As(err, &fault) {
		return *fault
	}
	var why api.Errno
	errors.As(err, &why)
	return api.Fault{Why: why}
}

func (p *player) snapshot(api.Command) answer { return done(p.ledger.Snapshot()) }

func (p *player) trim(c api.Command) answer { return counted(p.ledger.Trim(numberAt(c, 0))) }

func (p *player) rebuild(c api.Command) answer {
	progress, why := p.ledger.Rebuild(numberAt(c, 0))
	if why != api.OK {
		return failed(why)
	}
	return good(progressWords(progress)...)
}

func (p *player) status(api.Command) answer {
	progress, readOnly := p.ledger.Status()
	return good(append(progressWords(progress), flag(readOnly))...)
}

func progressWords(p api.Progress) []string {
	return []string{strconv.Itoa(p.Gen), flag(p.Busy), strconv.Itoa(p.At), strconv.Itoa(p.Of)}
}

func flag(is bool) string {
	if is {
		return "1"
	}
	return "0"
}
