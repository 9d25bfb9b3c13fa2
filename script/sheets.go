package script

import (
	"daybook/api"
	"daybook/book"
	"daybook/sheet"
)

func (p *player) sheet(c api.Command) answer {
	switch c.Args[0] {
	case "trial":
		return quoted(p.trialSheet())
	case "tree":
		return quoted(p.treeSheet())
	case "income":
		return quoted(p.incomeSheet(dayAt(c, 1), dayAt(c, 2)))
	case "position":
		return quoted(p.positionSheet(dayAt(c, 1)))
	}
	return quoted(p.statementSheet(c.Args[1], dayAt(c, 2)))
}

func (p *player) trialSheet() (string, api.Errno) {
	l, why := p.ledger.Trial()
	if why != api.OK {
		return "", why
	}
	return sheet.Trial(l, p.settings.Digits)
}

func (p *player) treeSheet() (string, api.Errno) {
	accounts, why := p.ledger.Accounts()
	if why != api.OK {
		return "", why
	}
	var balances []api.Balance
	for _, a := range accounts {
		b, why := p.ledger.Rollup(a.Name)
		if why != api.OK {
			return "", why
		}
		balances = append(balances, b)
	}
	return sheet.Tree(accounts, balances, p.settings.Digits)
}

func (p *player) incomeSheet(from, to int) (string, api.Errno) {
	accounts, rows, why := p.accountsAndRows()
	if why != api.OK {
		return "", why
	}
	return sheet.Income(accounts, rows, from, to, p.settings.Digits)
}

func (p *player) positionSheet(at int) (string, api.Errno) {
	accounts, rows, why := p.accountsAndRows()
	if why != api.OK {
		return "", why
	}
	return sheet.Position(accounts, rows, at, p.settings.Digits)
}

func (p *player) statementSheet(account string, at int) (string, api.Errno) {
	open, why := p.ledger.Open(account, at)
	if why != api.OK {
		return "", why
	}
	ages, why := p.ledger.Aged(account, at)
	if why != api.OK {
		return "", why
	}
	return sheet.Statement(account, open, ages, at, p.settings.Digits)
}

// accountsAndRows is the ledger's accounts, and the rows that new books make of its events.
func (p *player) accountsAndRows() ([]api.Account, []api.Posting, api.Errno) {
	accounts, why := p.ledger.Accounts()
	if why != api.OK {
		return nil, nil, why
	}
	books := book.New()
	var rows []api.Posting
	for n := range p.ledger.Len() {
		e, why := p.ledger.Event(n + 1)
		if why != api.OK {
			return nil, nil, why
		}
		// New books refuse an event only where it was taken behind a forged checkpoint: they make no rows of it then.
		made, _ := books.Apply(e)
		rows = append(rows, made...)
	}
	return accounts, rows, api.OK
}
