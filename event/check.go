package event

import (
	"slices"

	"daybook/api"
	"daybook/day"
	"daybook/money"
	"daybook/names"
)

// minLines: a posting's fewest.
const minLines = 2

// valid tells whether there can be such an event.
func valid(e api.Event) bool {
	k := narrow(e)
	if k == nil {
		return false
	}
	c := &checker{}
	visit(k, c)
	return !c.bad && together(k) && isWhole(e, widen(k))
}

// together tells whether the fields of a kind that hang on one another may stand together.
func together(k kind) bool {
	switch k := k.(type) {
	case *opening:
		return names.IsRoot(k.account) == (k.rootType != 0)
	case *invoice:
		return k.account != k.other && k.due >= k.day
	case *payment:
		return k.account != k.other
	}
	return true
}

// isWhole tells whether what an event's kind has of it is all that it has.
func isWhole(e, own api.Event) bool {
	return e.Key == own.Key && e.Account == own.Account && e.Other == own.Other && e.Ref == own.Ref && e.Ref2 == own.Ref2 &&
		e.Type == own.Type && e.Due == own.Due && e.Amount == own.Amount && e.Memo == own.Memo && len(e.Lines) == len(own.Lines)
}

// checker looks at each field by itself.
type checker struct{ bad bool }

func (c *checker) need(good bool) { c.bad = c.bad || !good }

func (c *checker) day(n *int)        { c.need(isDay(*n)) }
func (c *checker) due(n *int)        { c.need(isDay(*n)) }
func (c *checker) rootType(n *int)   { c.need(*n >= 0 && *n <= api.Expense) }
func (c *checker) account(s *string) { c.need(names.IsAccount(*s)) }
func (c *checker) key(s *string)     { c.need(names.IsKey(*s)) }
func (c *checker) memo(s *string)    { c.need(names.IsMemo(*s)) }
func (c *checker) amount(a *int64)   { c.need(*a > 0) }

func (c *checker) lines(l *[]api.Line) {
	c.need(len(*l) >= minLines && len(*l) <= api.MaxLines && !slices.ContainsFunc(*l, isBad))
}

// isBad tells whether a line is none that a posting can have.
func isBad(l api.Line) bool {
	return !names.IsAccount(l.Account) || l.Amount == 0 || money.Check(l.Amount) != api.OK || !names.IsTag(l.Tag)
}

func isDay(n int) bool {
	_, e := day.To(n)
	return e == api.OK
}
