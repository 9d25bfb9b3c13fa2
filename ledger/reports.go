package ledger

import (
	"daybook/answer"
	"daybook/api"
	"daybook/grammar"
	"daybook/rebuild"
)

// reports is what the books and the views tell.
type reports struct {
	set *rebuild.Set
}

// found is a query's answer, or the place of the fault in its text.
type found struct {
	table api.Table
	at    int
}

func (r *reports) trial() ([]api.Column, api.Errno) { return r.set.Sums().Trial(), api.OK }

func (r *reports) rollup(account string) (api.Balance, api.Errno) {
	if why := r.known(account); why != api.OK {
		return api.Balance{}, why
	}
	held := r.set.Sums()
	return api.Balance{Account: account, Own: held.Own(account), Rollup: held.Rollup(account)}, api.OK
}

func (r *reports) daily(account string, from, to int) ([]api.DayRow, api.Errno) {
	if !isDay(from) || !isDay(to) || from > to {
		return nil, api.ErrArg
	}
	if why := r.known(account); why != api.OK {
		return nil, why
	}
	return r.set.Daily().Between(account, from, to), api.OK
}

func (r *reports) aged(account string, day int) (api.Ages, api.Errno) {
	if why := r.knownAt(account, day); why != api.OK {
		return api.Ages{}, why
	}
	return r.set.Aged().At(account, day), api.OK
}

func (r *reports) open(account string, day int) ([]api.Claim, api.Errno) {
	if why := r.knownAt(account, day); why != api.OK {
		return nil, why
	}
	return r.set.Aged().Open(account, day), api.OK
}

func (r *reports) accounts() ([]api.Account, api.Errno) {
	return r.set.Book().Base().Accounts, api.OK
}

func (r *reports) left(key string) (int64, api.Errno) {
	left, is := r.set.Book().Left(key)
	if !is {
		return 0, api.ErrRef
	}
	return left, api.OK
}

func (r *reports) query(s string) (found, api.Errno) {
	q, at, why := grammar.Parse(s)
	if why != api.OK {
		return found{at: at}, why
	}
	table, why := answer.Ask(q, r.set)
	return found{table: table}, why
}

// known: ErrUnknown, if no account of that name was ever opened.
func (r *reports) known(account string) api.Errno {
	if _, is := r.set.Book().Account(account); !is {
		return api.ErrUnknown
	}
	return api.OK
}

// knownAt: the same, behind a look at the day.
func (r *reports) knownAt(account string, day int) api.Errno {
	if !isDay(day) {
		return api.ErrArg
	}
	return r.known(account)
}

// isDay tells whether a number is a day.
func isDay(day int) bool { return day >= api.MinDay && day <= api.MaxDay }
