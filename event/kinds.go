package event

import "daybook/api"

// kind is an event with the fields that its kind has, and no others.
type kind interface {
	when() *int // its Day, which every kind has
}

type dated struct{ day int }

func (d *dated) when() *int { return &d.day }

type opening struct {
	dated
	account  string
	rootType int
}

type closing struct {
	dated
	account string
}

type posting struct {
	dated
	key, memo string
	lines     []api.Line
}

type voiding struct {
	dated
	key, ref, memo string
}

type invoice struct {
	dated
	key, account, other string
	due                 int
	amount              int64
	memo                string
}

type payment struct {
	dated
	key, account, other string
	amount              int64
	memo                string
}

type allotment struct {
	dated
	key, payment, invoice string
	amount                int64
}

type locking struct{ dated }

// narrow takes from an event what its kind has; nil, if there is no such kind.
func narrow(e api.Event) kind {
	on := dated{e.Day}
	switch e.Kind {
	case api.KOpen:
		return &opening{on, e.Account, e.Type}
	case api.KClose:
		return &closing{on, e.Account}
	case api.KPost:
		return &posting{on, e.Key, e.Memo, e.Lines}
	case api.KVoid:
		return &voiding{on, e.Key, e.Ref, e.Memo}
	case api.KInvoice:
		return &invoice{on, e.Key, e.Account, e.Other, e.Due, e.Amount, e.Memo}
	case api.KPay:
		return &payment{on, e.Key, e.Account, e.Other, e.Amount, e.Memo}
	case api.KAllot:
		return &allotment{on, e.Key, e.Ref, e.Ref2, e.Amount}
	case api.KLock:
		return &locking{on}
	}
	return nil
}

// widen is narrow's way back: what the kind does not have is zero.
func widen(k kind) api.Event {
	e := api.Event{Day: *k.when()}
	switch k := k.(type) {
	case *opening:
		e.Kind, e.Account, e.Type = api.KOpen, k.account, k.rootType
	case *closing:
		e.Kind, e.Account = api.KClose, k.account
	case *posting:
		e.Kind, e.Key, e.Memo, e.Lines = api.KPost, k.key, k.memo, k.lines
	case *voiding:
		e.Kind, e.Key, e.Ref, e.Memo = api.KVoid, k.key, k.ref, k.memo
	case *invoice:
		e.Kind, e.Key, e.Account, e.Other = api.KInvoice, k.key, k.account, k.other
		e.Due, e.Amount, e.Memo = k.due, k.amount, k.memo
	case *payment:
		e.Kind, e.Key, e.Account, e.Other = api.KPay, k.key, k.account, k.other
		e.Amount, e.Memo = k.amount, k.memo
	case *allotment:
		e.Kind, e.Key, e.Ref, e.Ref2, e.Amount = api.KAllot, k.key, k.payment, k.invoice, k.amount
	case *locking:
		e.Kind = api.KLock
	}
	return e
}

// visitor does one thing with whichever field it is led to: looks at it, writes it, or reads it.
type visitor interface {
	day(*int)
	due(*int)
	rootType(*int)
	account(*string)
	key(*string)
	memo(*string)
	amount(*int64)
	lines(*[]api.Line)
}

// visit leads a visitor through a kind's fields. Bytes and lines have them in the same order, so it is told here alone.
func visit(k kind, v visitor) {
	v.day(k.when())
	switch k := k.(type) {
	case *opening:
		v.account(&k.account)
		v.rootType(&k.rootType)
	case *closing:
		v.account(&k.account)
	case *posting:
		v.key(&k.key)
		v.memo(&k.memo)
		v.lines(&k.lines)
	case *voiding:
		v.key(&k.key)
		v.key(&k.ref)
		v.memo(&k.memo)
	case *invoice:
		v.key(&k.key)
		v.account(&k.account)
		v.account(&k.other)
		v.due(&k.due)
		v.amount(&k.amount)
		v.memo(&k.memo)
	case *payment:
		v.key(&k.key)
		v.account(&k.account)
		v.account(&k.other)
		v.amount(&k.amount)
		v.memo(&k.memo)
	case *allotment:
		v.key(&k.key)
		v.key(&k.payment)
		v.key(&k.invoice)
		v.amount(&k.amount)
	}
}
