package ledger

import (
	"daybook/api"
	"daybook/rebuild"
)

// rebuilds is how the set is made anew.
type rebuilds struct {
	job *rebuild.Job // nil: none is under way
	gen int          // so many were cut over
}

// step goes on with a rebuild, or begins one. The old set answers until the new one has taken all records.
func (l *Ledger) step(k int) (api.Progress, api.Errno) {
	if k < 1 {
		return api.Progress{}, api.ErrArg
	}
	if l.job == nil {
		l.job = rebuild.Begin(l.log)
	}
	made, why := l.job.Step(k)
	if why != api.OK {
		l.job = nil
		return api.Progress{}, why
	}
	if made {
		l.set, l.job = l.job.Set(), nil
		l.gen++
	}
	return l.progress(), api.OK
}

// progress is how far it has come.
func (l *Ledger) progress() api.Progress {
	p := api.Progress{Gen: l.gen, Of: l.count()}
	if l.job != nil {
		p.Busy, p.At = true, l.job.At()
	}
	return p
}
