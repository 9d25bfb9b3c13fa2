package sums

import (
	"slices"
	"testing"

	"daybook/api"
)

// some: a State with all that can be in one: a root that holds nothing itself, one whose rollup is 0, an account that only stands above others.
func some() []api.Balance {
	return []api.Balance{
		bal("A", 7, 12), bal("A-1", -3, -3), bal("A:B", 0, 5), bal("A:B:C", 0, 5), bal("A:B:C:D", 5, 5), bal("B", 0, 0), bal("B:A", 4, 4), bal("B:B", -4, -4), bal("C", -6, 0), bal("C:D", 6, 6), bal("Z", 1, 1),
	}
}

func notAState(t *testing.T, l []api.Balance) {
	t.Helper()
	if valid(l) {
		t.Fatalf("%v is a State", l)
	}
	if s, e := From(l); s != nil || e != api.ErrView {
		t.Errorf("From(%v): %v, %d", l, s, e)
	}
}

func isAState(t *testing.T, l []api.Balance) {
	t.Helper()
	if !valid(l) {
		t.Fatalf("%v is no State", l)
	}
	m := model{}
	for _, b := range l {
		m = append(m, row(b.Account, b.Own))
	}
	alike(t, copyOf(t, l), m)
}

func TestP8_5FromStates(t *testing.T) {
	deep := []api.Balance{}
	for _, name := range slices.Backward(beginnings(longestName)) {
		deep = append(deep, bal(name, 0, -9))
	}
	deep[5].Own = -9
	for _, l := range [][]api.Balance{
		nil, {}, some(), deep, {bal("A", 1, 1)}, {bal("A", -1, -1)}, {bal("A", most, most)}, {bal("A", -most, -most)}, {bal("A", most, 0), bal("A:B", -most, -most)}, {bal("A", most, most), bal("B", -most, -most)},
		{bal("A", most-1, most), bal("A:B", 1, 1)}, {bal("A", 0, 0), bal("A:B", most, most), bal("A:C", -most, -most)}, {bal("A", most/2, most/2), bal("B", most/2, most/2), bal("C", 1, 1)},
	} {
		isAState(t, l)
	}
}

// TestP8_5FromOneThingWrong: each single cause by itself.
func TestP8_5FromOneThingWrong(t *testing.T) {
	for i, b := range some() {
		change := func(f func(*api.Balance)) []api.Balance {
			l := some()
			f(&l[i])
			return l
		}
		for _, name := range append(badNames(), "Zz:A") {
			notAState(t, change(func(b *api.Balance) { b.Account = name }))
		}
		for _, n := range []int64{1, -1, most, -most, least} {
			notAState(t, change(func(b *api.Balance) { b.Own += n }))
			notAState(t, change(func(b *api.Balance) { b.Rollup += n }))
		}
		notAState(t, change(func(b *api.Balance) { b.Own, b.Rollup = least, least }))
		notAState(t, change(func(b *api.Balance) { b.Own, b.Rollup = b.Rollup, b.Own-1 }))
		// A row too many: the same again, one that holds nothing, one with its parent and one without.
		notAState(t, slices.Insert(some(), i, b))
		if len(b.Account) < 7 {
			notAState(t, slices.Insert(some(), i+1, bal(b.Account+"-", 0, 0)))
		}
		if i > 0 {
			l := some()
			l[i], l[i-1] = l[i-1], l[i]
			notAState(t, l)
		}
	}
	notAState(t, slices.Insert(some(), 5, bal("A:B:C:E", 0, 0)))
	notAState(t, append(some(), bal("Z:A", 0, 0)))
	notAState(t, append(some(), bal("Zz", 0, 0)))
	isAState(t, append(some(), bal("Zz", 1, 1)))
}

func TestP8_5FromMissingRows(t *testing.T) {
	for i, b := range some() {
		l := slices.Delete(some(), i, i+1)
		// Without an account that has none below it, and is a root, the rest is a State of its own.
		if b.Account == "A-1" || b.Account == "Z" {
			isAState(t, l)
			continue
		}
		notAState(t, l)
	}
	// Those above it, one by one: the parent, the one above that, both.
	isAState(t, []api.Balance{bal("A", 0, 5), bal("A:B", 0, 5), bal("A:B:C", 5, 5)})
	notAState(t, []api.Balance{bal("A", 0, 5), bal("A:B:C", 5, 5)})
	notAState(t, []api.Balance{bal("A:B", 0, 5), bal("A:B:C", 5, 5)})
	notAState(t, []api.Balance{bal("A:B:C", 5, 5)})
	notAState(t, []api.Balance{bal("A-1", 0, 5), bal("A:B", 5, 5)})
	notAState(t, []api.Balance{bal("A", 5, 5), bal("B:C", 5, 5)})
}

func TestP8_5FromOrder(t *testing.T) {
	isAState(t, []api.Balance{bal("A", 1, 4), bal("A-1", 2, 2), bal("A:B", 3, 3)})
	notAState(t, []api.Balance{bal("A", 1, 4), bal("A:B", 3, 3), bal("A-1", 2, 2)})
	notAState(t, []api.Balance{bal("A", 1, 1), bal("A", 1, 1)})
	notAState(t, []api.Balance{bal("A", 1, 2), bal("A", 1, 2)})
	notAState(t, []api.Balance{bal("A", 2, 2), bal("A", 0, 2)})
	notAState(t, []api.Balance{bal("A:B", 1, 1), bal("A", 0, 1)})
	l := some()
	slices.Reverse(l)
	notAState(t, l)
}

// TestP8_5FromBounds: on both sides, alone and over several accounts, at the bound and one above it.
func TestP8_5FromBounds(t *testing.T) {
	for _, sign := range []int64{1, -1} {
		n := func(a int64) int64 { return sign * a }
		for _, l := range [][]api.Balance{
			{bal("A", n(most-1), n(most-1)), bal("B", n(1), n(1))}, {bal("A", n(most-1), n(most)), bal("A:B", n(1), n(1))}, {bal("A", n(-most), 0), bal("A:B", n(most), n(most))},
		} {
			isAState(t, l)
		}
		for _, l := range [][]api.Balance{
			{bal("A", n(most), n(most)), bal("B", n(1), n(1))}, {bal("A", n(most), n(most)), bal("B", n(most), n(most))}, {bal("A", n(most-1), n(most-1)), bal("B", n(1), n(1)), bal("C", n(1), n(1))},
			{bal("A", n(-1), n(most-1)), bal("A:B", n(most), n(most)), bal("B", n(1), n(1))}, {bal("A", n(-1), n(most)), bal("A:B", n(most), n(most)), bal("A:C", n(1), n(1))},
			{bal("A", n(most), n(most)), bal("B", n(most), n(most)), bal("C", n(2), n(2))}, {bal("A", n(most), n(most)), bal("B", n(most), n(most)), bal("C", n(3), n(3))},
			{bal("A", n(most), n(-most)), bal("A:B", n(2), n(2))}, {bal("A", n(most), n(least)), bal("A:B", n(1), n(1))},
		} {
			notAState(t, l)
		}
	}
	notAState(t, []api.Balance{bal("A", least, least)})
	notAState(t, []api.Balance{bal("A", 0, least), bal("A:B", least, least)})
	notAState(t, []api.Balance{bal("A", least, -most), bal("A:B", 1, 1)})
}

// TestP8_5FromAnyList: lists that are nearly States, held against the chapter's words.
func TestP8_5FromAnyList(t *testing.T) {
	r := source(1)
	names := []string{"A", "A-1", "A0", "A:B", "A:B:C", "A:B:C:D", "A:C", "B", "B:C", "a"}
	met := map[bool]int{}
	for range 60000 {
		m := model{}
		for range r.IntN(5) {
			m = append(m, row(names[r.IntN(9)], int64(r.IntN(5)-2)))
		}
		l := m.state()
		for range r.IntN(3) {
			b := bal(names[r.IntN(10)], int64(r.IntN(5)-2), int64(r.IntN(5)-2))
			switch i := r.IntN(len(l) + 1); {
			case r.IntN(3) == 0:
				l = slices.Insert(l, i, b)
			case i == len(l):
			case r.IntN(2) == 0:
				l = slices.Delete(l, i, i+1)
			case r.IntN(4) == 0:
				l[i].Account = b.Account
			case r.IntN(2) == 0:
				l[i].Own = b.Own
			default:
				l[i].Rollup = b.Rollup
			}
		}
		met[valid(l)]++
		if valid(l) {
			wantState(t, copyOf(t, l), l...)
			continue
		}
		notAState(t, l)
	}
	if met[true] < 5000 || met[false] < 5000 {
		t.Errorf("lists: %v", met)
	}
}
