package daily

import (
	"slices"
	"testing"

	"daybook/api"
)

// some: a State with all that can be in one: balances of 0 and on both sides, the same days on several accounts, names that begin alike.
func some() []api.DayRow {
	return []api.DayRow{
		dr("A", 5, 7, 7), dr("A", 9, -7, 0), dr("A", 12, -2, -2), dr("A-1", 5, 7, 7), dr("A:B", 3, -4, -4), dr("A:B", 5, 10, 6), dr("A:B:C", 9, 1, 1), dr("B", firstDay, 3, 3), dr("B", lastDay, 4, 7), dr("Z", 12, -2, -2),
	}
}

func notAState(t *testing.T, l []api.DayRow) {
	t.Helper()
	if valid(l) {
		t.Fatalf("%v is a State", l)
	}
	if d, e := From(l); d != nil || e != api.ErrView {
		t.Errorf("From(%v): %v, %d", l, d, e)
	}
}

func isAState(t *testing.T, l []api.DayRow) {
	t.Helper()
	if !valid(l) {
		t.Fatalf("%v is no State", l)
	}
	m := model{}
	for _, r := range l {
		m = append(m, row(r.Account, r.Day, r.Change))
	}
	d := copyOf(t, l)
	wantState(t, d, l...)
	alike(t, d, m)
}

func TestP9_5FromStates(t *testing.T) {
	for _, l := range [][]api.DayRow{
		nil, {}, some(), {dr("A", 1, 1, 1)}, {dr("A", 1, -1, -1)}, {dr("A", firstDay, most, most)}, {dr("A", lastDay, -most, -most)}, {dr("A", 1, most, most), dr("A", 2, -most, 0), dr("A", 3, -most, -most), dr("A", 4, most, 0)},
		{dr("A", 1, most-1, most-1), dr("A", 2, 1, most)}, {dr("A", 1, most, most), dr("B", 1, most, most), dr("C", 1, -most, -most)}, {dr(longestName, 7, 1, 1)}, {dr("A", 1, 1, 1), dr("A", 2, 1, 2), dr("A", 3, 1, 3), dr("A", 4, 1, 4)},
	} {
		isAState(t, l)
	}
}

// TestP9_5FromOneThingWrong: each single cause by itself, at each place.
func TestP9_5FromOneThingWrong(t *testing.T) {
	for i, r := range some() {
		change := func(f func(*api.DayRow)) []api.DayRow {
			l := some()
			f(&l[i])
			return l
		}
		for _, name := range badNames() {
			notAState(t, change(func(r *api.DayRow) { r.Account = name }))
		}
		for _, day := range badDays() {
			notAState(t, change(func(r *api.DayRow) { r.Day = day }))
		}
		for _, n := range []int64{1, -1, most, -most, least} {
			notAState(t, change(func(r *api.DayRow) { r.Change += n }))
			notAState(t, change(func(r *api.DayRow) { r.Balance += n }))
		}
		notAState(t, change(func(r *api.DayRow) { r.Balance = -r.Balance - 1 }))
		notAState(t, change(func(r *api.DayRow) { r.Change, r.Balance = 0, r.Balance-r.Change }))
		// A row too many: the same again, the same day again, a day without a change ahead of it and behind it.
		notAState(t, slices.Insert(some(), i, r))
		notAState(t, slices.Insert(some(), i+1, dr(r.Account, r.Day, 1, r.Balance+1)))
		notAState(t, slices.Insert(some(), i+1, dr(r.Account, r.Day, 0, r.Balance)))
		if r.Day > firstDay {
			notAState(t, slices.Insert(some(), i, dr(r.Account, r.Day-1, 0, r.Balance-r.Change)))
		}
		if r.Day < lastDay {
			notAState(t, slices.Insert(some(), i+1, dr(r.Account, r.Day+1, 0, r.Balance)))
		}
		if i > 0 {
			l := some()
			l[i], l[i-1] = l[i-1], l[i]
			notAState(t, l)
		}
	}
}

// TestP9_5FromBadNamesAndDays: where all else is as it must be, the order too.
func TestP9_5FromBadNamesAndDays(t *testing.T) {
	isAState(t, []api.DayRow{dr("A", 5, 1, 1)})
	for _, name := range badNames() {
		notAState(t, []api.DayRow{dr(name, 5, 1, 1)})
	}
	for _, day := range badDays() {
		notAState(t, []api.DayRow{dr("A", day, 1, 1)})
	}
	isAState(t, []api.DayRow{dr("A", firstDay, 1, 1), dr("A", lastDay, 1, 2)})
	notAState(t, []api.DayRow{dr("A", firstDay-1, 1, 1), dr("A", lastDay, 1, 2)})
	notAState(t, []api.DayRow{dr("A", firstDay, 1, 1), dr("A", lastDay+1, 1, 2)})
}

// TestP9_5FromMissingRows: a row can be missing only where nothing behind it hangs on it.
func TestP9_5FromMissingRows(t *testing.T) {
	for i, r := range some() {
		l := slices.Delete(some(), i, i+1)
		if i+1 == len(some()) || some()[i+1].Account != r.Account {
			isAState(t, l)
			continue
		}
		notAState(t, l)
	}
}

func TestP9_5FromOrder(t *testing.T) {
	isAState(t, []api.DayRow{dr("A", 3, 1, 1), dr("A-1", 2, 2, 2), dr("A:B", 1, 3, 3)})
	notAState(t, []api.DayRow{dr("A", 3, 1, 1), dr("A:B", 1, 3, 3), dr("A-1", 2, 2, 2)})
	notAState(t, []api.DayRow{dr("A:B", 1, 3, 3), dr("A", 3, 1, 1)})
	isAState(t, []api.DayRow{dr("A", 5, 1, 1), dr("A", 9, 1, 2), dr("B", 5, 1, 1)})
	notAState(t, []api.DayRow{dr("A", 9, 1, 2), dr("A", 5, 1, 1), dr("B", 5, 1, 1)})
	notAState(t, []api.DayRow{dr("A", 9, 1, 1), dr("A", 5, 1, 2), dr("B", 5, 1, 1)})
	notAState(t, []api.DayRow{dr("A", 5, 1, 1), dr("B", 5, 1, 1), dr("A", 9, 1, 2)})
	notAState(t, []api.DayRow{dr("A", 5, 1, 1), dr("B", 5, 1, 1), dr("A", 9, 1, 1)})
	notAState(t, []api.DayRow{dr("A", 5, 1, 1), dr("A", 5, 1, 1)})
	notAState(t, []api.DayRow{dr("A", 5, 1, 2), dr("A", 5, 1, 2)})
	notAState(t, []api.DayRow{dr("A", 5, 2, 2), dr("A", 5, 0, 2)})
	notAState(t, []api.DayRow{dr("A", 5, 2, 2), dr("A", 5, -2, 0)})
	// The balance begins anew with each account.
	notAState(t, []api.DayRow{dr("A", 5, 1, 1), dr("B", 9, 1, 2)})
	notAState(t, []api.DayRow{dr("A", 5, 1, 1), dr("A:B", 9, 1, 2)})
	l := some()
	slices.Reverse(l)
	notAState(t, l)
}

// TestP9_5FromBounds: on both sides, at the bound and one above it, of a change and of a balance.
func TestP9_5FromBounds(t *testing.T) {
	for _, sign := range []int64{1, -1} {
		n := func(a int64) int64 { return sign * a }
		for _, l := range [][]api.DayRow{
			{dr("A", 1, n(most), n(most))}, {dr("A", 1, n(most-1), n(most-1)), dr("A", 2, n(1), n(most))}, {dr("A", 1, n(most), n(most)), dr("A", 2, n(-most), 0)}, {dr("A", 1, n(most), n(most)), dr("A:B", 1, n(1), n(1))},
		} {
			isAState(t, l)
		}
		for _, l := range [][]api.DayRow{
			{dr("A", 1, n(most), n(most)), dr("A", 2, n(1), least)}, {dr("A", 1, n(most), n(most)), dr("A", 2, n(1), n(most))}, {dr("A", 1, n(most), n(most)), dr("A", 2, n(2), n(-most))}, {dr("A", 1, n(most), n(most)), dr("A", 2, n(most), n(-2))},
			{dr("A", 1, n(1), n(1)), dr("A", 2, n(most), least)}, {dr("A", 1, n(most), n(most)), dr("A", 2, n(1), least), dr("A", 3, n(-1), n(most))}, {dr("A", 1, n(most), n(most)), dr("A", 2, n(most), n(-2)), dr("A", 3, n(2), 0)},
			{dr("A", 1, n(most), n(most)), dr("A", 2, n(-most), 0), dr("A", 3, least, least)}, {dr("A", 1, n(1), n(1)), dr("A", 2, least, least+n(1))},
		} {
			notAState(t, l)
		}
	}
	notAState(t, []api.DayRow{dr("A", 1, least, least)})
	notAState(t, []api.DayRow{dr("A", 1, most, most), dr("A", 2, least, -1)})
	notAState(t, []api.DayRow{dr("A", 1, -most, -most), dr("A", 2, -1, least)})
}

// TestP9_5FromAnyList: lists that are nearly States, held against the chapter's words.
func TestP9_5FromAnyList(t *testing.T) {
	r := source(1)
	names := []string{"A", "A-1", "A0", "A:B", "A:B:C", "B", "a"}
	days := []int{firstDay, 2, 3, lastDay, 0, lastDay + 1}
	met := map[bool]int{}
	for range 60000 {
		m := model{}
		for range r.IntN(7) {
			m = append(m, row(names[r.IntN(6)], days[r.IntN(4)], int64(r.IntN(5)-2)))
		}
		l := m.state()
		for range r.IntN(3) {
			x := dr(names[r.IntN(7)], days[r.IntN(6)], int64(r.IntN(5)-2), int64(r.IntN(5)-2))
			switch i := r.IntN(len(l) + 1); {
			case r.IntN(3) == 0:
				l = slices.Insert(l, i, x)
			case i == len(l):
			case r.IntN(2) == 0:
				l = slices.Delete(l, i, i+1)
			case r.IntN(4) == 0:
				l[i].Account = x.Account
			case r.IntN(3) == 0:
				l[i].Day = x.Day
			case r.IntN(2) == 0:
				l[i].Change = x.Change
			default:
				l[i].Balance = x.Balance
			}
		}
		met[valid(l)]++
		if valid(l) {
			wantState(t, copyOf(t, l), l...)
			continue
		}
		notAState(t, l)
	}
	if met[true] < 5000 || met[false] < 5000 {
		t.Errorf("lists: %v", met)
	}
}
