package rebuild

import (
	"iter"
	"slices"

	"daybook/api"
	"daybook/event"
	"daybook/store"
)

// tell tells rows that the books have taken to the views of them. None refuses: the sizes of all rows of the books add up to an amount, and so does whatever a view adds.
func (s *Set) tell(rows []api.Posting) {
	s.sums.Apply(rows)
	s.daily.Apply(rows)
}

// hasViews: whether the views' states are those that a Snap tells.
func (s *Set) hasViews(x api.Snap) bool {
	return slices.Equal(x.Balances, s.sums.State()) &&
		slices.Equal(x.Days, s.daily.State()) &&
		slices.Equal(x.Claims, s.aged.Claims()) &&
		slices.Equal(x.Allots, s.aged.Allots())
}

// lastDay is the last day that a base tells, of whatever.
func lastDay(b api.Base) int {
	last := b.Lock
	for _, a := range b.Accounts {
		last = max(last, a.Opened)
	}
	for _, row := range b.Rows {
		last = max(last, row.Day)
	}
	for _, a := range b.Allots {
		last = max(last, a.Day)
	}
	return last
}

// taking takes a log's records, from one on to the last one, one whenever the next one is asked for: OK, or why it can't be taken.
func (s *Set) taking(l *store.Log, from int) iter.Seq[api.Errno] {
	return func(yield func(api.Errno) bool) {
		for i := from; i < l.Len(); i++ {
			if !yield(s.take(l, i)) {
				return
			}
		}
	}
}

// take takes one of them.
func (s *Set) take(l *store.Log, i int) api.Errno {
	b, why := l.Read(i)
	if why != api.OK {
		return why
	}
	e, why := event.Decode(b)
	if why != api.OK {
		return why
	}
	return s.Apply(e)
}
