package sums

import (
	"slices"
	"testing"

	"daybook/api"
)

// scratch writes over a list, its spare room too.
func scratch[E any](l []E, with E) {
	l = l[:cap(l)]
	for i := range l {
		l[i] = with
	}
}

// spared: a copy with room behind it.
func spared[E any](l []E) []E { return slices.Grow(slices.Clone(l), 9) }

// unused: whether nothing was written to the room behind a list.
func unused[E comparable](l []E) bool {
	var none E
	return !slices.ContainsFunc(l[len(l):cap(l)], func(e E) bool { return e != none })
}

func TestApplyKeepsNothing(t *testing.T) {
	x := held(t)
	for _, given := range [][]api.Posting{
		{row("B:C", 1), row("A:B", -1), row("N:N", -1), row("A", 1), row("B:C", -3)}, {row("B", 1), row("A:b", 1)}, {row("B", 1), row("A", least)}, {row("B", 1), row("A", most), row("C", most)},
	} {
		rows := spared(given)
		x.tell(rows...)
		if !slices.Equal(rows, given) || !unused(rows) {
			t.Errorf("the rows were changed: %v", rows)
		}
		scratch(rows, row("X", 99))
		alike(t, x.s, x.m)
	}
	x.take(row("B:C", 1))
	alike(t, x.s, x.m)
}

func TestFromKeepsNothing(t *testing.T) {
	l := spared(some())
	s := copyOf(t, l)
	if !slices.Equal(l, some()) || !unused(l) {
		t.Errorf("the list was changed: %v", l)
	}
	s.Apply([]api.Posting{row("Zz", 5), row("A", 1)})
	if !slices.Equal(l, some()) || !unused(l) {
		t.Errorf("the list was changed later: %v", l)
	}
	s.Apply([]api.Posting{row("Zz", -5), row("A", -1)})
	scratch(l, bal("X", 9, 9))
	wantState(t, s, some()...)

	l = spared(append(some(), bal("X", 1, 1)))
	before := slices.Clone(l)
	if _, e := From(l); e != api.ErrView || !slices.Equal(l, before) || !unused(l) {
		t.Errorf("%d, or the list was changed: %v", e, l)
	}
}

func TestAnswersAreNobodys(t *testing.T) {
	x := held(t)
	for range 3 {
		state, trial := x.s.State(), x.s.Trial()
		state2, trial2 := x.s.State(), x.s.Trial()
		scratch(state, bal("X", 9, 9))
		scratch(trial, debit("X", 9))
		if !slices.Equal(state2, x.m.state()) || !slices.Equal(trial2, x.m.trial()) {
			t.Fatal("two answers share memory")
		}
		alike(t, x.s, x.m)
		x.take(row("B:C", -1), row("N:N", 1))
		x.take(row("B:C", 1), row("N:N", -1))
		if !slices.Equal(state2, x.m.state()) || !slices.Equal(trial2, x.m.trial()) {
			t.Fatal("an answer was changed by later rows")
		}
	}
	// What is handed to From is not what State hands out later.
	l := x.s.State()
	y := copyOf(t, l)
	scratch(y.State(), bal("X", 9, 9))
	if !slices.Equal(l, x.m.state()) {
		t.Error("an answer of State shares memory with From's argument")
	}
	alike(t, y, x.m)
}

// TestTwoSums: they know nothing of one another, though one was made of the other.
func TestTwoSums(t *testing.T) {
	x, other := held(t), New()
	y := &both{t, copyOf(t, x.s.State()), x.m}
	x.take(row("A", 1), row("N", -1))
	alike(t, y.s, y.m, "N")
	alike(t, other, nil, "A", "N")
	y.take(row("A", -most+5), row("M:M", 7))
	y.refused(api.ErrArg, row("a", 1))
	alike(t, x.s, x.m, "M")
	alike(t, other, nil, "A", "M")
	alike(t, New(), nil)
	if e := other.Apply([]api.Posting{row("A", most), row("B", -most)}); e != api.OK {
		t.Errorf("rows on empty Sums: %d", e)
	}
	alike(t, x.s, x.m)
	alike(t, y.s, y.m)
}

// TestAskingChangesNothing: whatever is asked, however often.
func TestAskingChangesNothing(t *testing.T) {
	x := held(t)
	for range 3 {
		for _, name := range append(badNames(), "N", "N:N", "A:Q", "A") {
			x.s.Own(name)
			x.s.Rollup(name)
		}
		x.s.Trial()
		x.s.Totals()
		alike(t, x.s, x.m, "N", "N:N", "A:Q")
	}
	// Nor is it noticed in what goes on.
	x.take(row("N:N", 1), row("A", -1))
	alike(t, x.s, x.m)
	alike(t, copyOf(t, x.s.State()), x.m)
}
