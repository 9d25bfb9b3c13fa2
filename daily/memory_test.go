package daily

import (
	"slices"
	"testing"

	"daybook/api"
)

// scratch writes over a list, its spare room too.
func scratch[E any](l []E, with E) {
	l = l[:cap(l)]
	for i := range l {
		l[i] = with
	}
}

// spared: a copy with room behind it.
func spared[E any](l []E) []E { return slices.Grow(slices.Clone(l), 9) }

// unused: whether nothing was written to the room behind a list.
func unused[E comparable](l []E) bool {
	var none E
	return !slices.ContainsFunc(l[len(l):cap(l)], func(e E) bool { return e != none })
}

func TestApplyKeepsNothing(t *testing.T) {
	x := held(t)
	for _, given := range [][]api.Posting{
		{row("B", 9, 1), row("A:B", 5, -1), row("N:N", 7, -1), row("A", 3, 1), row("B", 2, -3)}, {row("B", 9, 1), row("A:b", 2, 1)}, {row("B", 9, 1), row("A", 2, least)}, {row("B", 9, 1), row("B", 0, 1)}, {row("B", 9, 1), row("A", 10, most), row("C", 2, most)},
	} {
		rows := spared(given)
		x.tell(rows...)
		if !slices.Equal(rows, given) || !unused(rows) {
			t.Errorf("the rows were changed: %v", rows)
		}
		scratch(rows, row("X", 9, 99))
		alike(t, x.d, x.m)
	}
	x.take(row("B", 9, 1))
	alike(t, x.d, x.m)
}

func TestFromKeepsNothing(t *testing.T) {
	l := spared(some())
	d := copyOf(t, l)
	if !slices.Equal(l, some()) || !unused(l) {
		t.Errorf("the list was changed: %v", l)
	}
	d.Apply([]api.Posting{row("Zz", 5, 5), row("A", 1, 1), row("A", 13, 1)})
	if !slices.Equal(l, some()) || !unused(l) {
		t.Errorf("the list was changed later: %v", l)
	}
	d.Apply([]api.Posting{row("Zz", 5, -5), row("A", 1, -1), row("A", 13, -1)})
	scratch(l, dr("X", 9, 9, 9))
	wantState(t, d, some()...)

	l = spared(append(some(), dr("X", 1, 1, 1)))
	before := slices.Clone(l)
	if _, e := From(l); e != api.ErrView || !slices.Equal(l, before) || !unused(l) {
		t.Errorf("%d, or the list was changed: %v", e, l)
	}
}

func TestAnswersAreNobodys(t *testing.T) {
	x := held(t)
	for range 3 {
		state, between := x.d.State(), x.d.Between("A", 11, most)
		state2, between2 := x.d.State(), x.d.Between("A", 11, most)
		stateWas, betweenWas := x.m.state(), x.m.between("A", 11, most)
		scratch(state, dr("X", 9, 9, 9))
		scratch(between, dr("X", 9, 9, 9))
		if !slices.Equal(state2, stateWas) || !slices.Equal(between2, betweenWas) {
			t.Fatal("two answers share memory")
		}
		alike(t, x.d, x.m)
		x.take(row("A", 5, -1), row("A", 20, 3), row("N:N", 1, 1))
		if !slices.Equal(state2, stateWas) || !slices.Equal(between2, betweenWas) {
			t.Fatal("an answer was changed by later rows")
		}
		x.take(row("A", 5, 1), row("A", 20, -3), row("N:N", 1, -1))
		alike(t, x.d, x.m)
	}
	// What is handed to From is not what State hands out later.
	l := x.d.State()
	y := copyOf(t, l)
	scratch(y.State(), dr("X", 9, 9, 9))
	if !slices.Equal(l, x.m.state()) {
		t.Error("an answer of State shares memory with From's argument")
	}
	alike(t, y, x.m)
}

// TestTwoViews: they know nothing of one another, though one was made of the other.
func TestTwoViews(t *testing.T) {
	x, other := held(t), New()
	y := &both{t, copyOf(t, x.d.State()), x.m}
	x.take(row("A", 5, 1), row("A", 20, 3), row("N", 1, -1))
	alike(t, y.d, y.m, "N")
	alike(t, other, nil, "A", "N")
	y.take(row("A", 10, -most+5), row("A", 11, 2), row("M:M", 3, 7))
	y.refused(api.ErrArg, row("a", 1, 1))
	alike(t, x.d, x.m, "M")
	alike(t, other, nil, "A", "M")
	alike(t, New(), nil)
	if e := other.Apply([]api.Posting{row("A", 10, most), row("B", 25, -most)}); e != api.OK {
		t.Errorf("rows on an empty view: %d", e)
	}
	alike(t, x.d, x.m)
	alike(t, y.d, y.m)
}

// TestAskingChangesNothing: whatever is asked, however often.
func TestAskingChangesNothing(t *testing.T) {
	x := held(t)
	for range 3 {
		for _, name := range append(badNames(), "N", "N:N", "A:Q", "A") {
			for _, day := range append(badDays(), 5, 10, 15) {
				x.d.At(name, day)
				x.d.Between(name, day, 20)
				x.d.Between(name, 20, day)
			}
		}
		alike(t, x.d, x.m, "N", "N:N", "A:Q")
	}
	// Nor is it noticed in what goes on.
	x.take(row("N:N", 1, 1), row("A", 5, -1))
	alike(t, x.d, x.m)
	alike(t, copyOf(t, x.d.State()), x.m)
}
