package sums

import (
	"slices"
	"testing"

	"daybook/api"
)

func wantState(t *testing.T, s *Sums, want ...api.Balance) {
	t.Helper()
	if got := s.State(); !slices.Equal(got, want) {
		t.Errorf("State: %v, want %v", got, want)
	}
}

func TestExamples1And2(t *testing.T) {
	x := fresh(t)
	x.take(row("A:B", 500), row("A:B:C", 300), row("A", -800))
	wantState(t, x.s, bal("A", -800, 0), bal("A:B", 500, 800), bal("A:B:C", 300, 300))
	if got := x.s.Trial(); !slices.Equal(got, []api.Column{credit("A", 800), debit("A:B", 500), debit("A:B:C", 300)}) {
		t.Errorf("Trial: %v", got)
	}
	if d, c := x.s.Totals(); d != 800 || c != 800 {
		t.Errorf("Totals: %d, %d", d, c)
	}
	for name, want := range map[string]int64{"A:B": 800, "A:X": 0, "": 0, "a": 0} {
		if got := x.s.Rollup(name); got != want {
			t.Errorf("Rollup(%q): %d, want %d", name, got, want)
		}
	}
	x.take(row("A:B:C", -300))
	wantState(t, x.s, bal("A", -800, -300), bal("A:B", 500, 500))
	x.take(row("A:B", -500), row("A", 800))
	wantState(t, x.s)
	alike(t, x.s, nil)
}

func TestExample3(t *testing.T) {
	x := fresh(t)
	x.take(row("X:Y", 7))
	wantState(t, x.s, bal("X", 0, 7), bal("X:Y", 7, 7))
}

func TestExample4(t *testing.T) {
	x := fresh(t)
	x.take(row("A:B", 1), row("A-1", 2), row("A", 4))
	wantState(t, x.s, bal("A", 4, 5), bal("A-1", 2, 2), bal("A:B", 1, 1))
}

func TestExample5(t *testing.T) {
	x := fresh(t)
	x.take(row("A", most), row("A", 1), row("A", -1))
	if got := x.s.Own("A"); got != most {
		t.Errorf("Own(A): %d", got)
	}
	x = fresh(t)
	x.refused(api.ErrOverflow, row("A", most), row("B", 1))
	x.refused(api.ErrOverflow, row("A", most), row("B", -most), row("B", -1))
	if got := x.s.Own("A"); got != 0 {
		t.Errorf("Own(A): %d", got)
	}
}

func TestExample6(t *testing.T) {
	x := fresh(t)
	x.refused(api.ErrArg, row("A:b", 1))
	x.refused(api.ErrArg, row("A", least))
	x.take()
	wantState(t, x.s)
}

func TestExample7(t *testing.T) {
	wantState(t, copyOf(t, []api.Balance{bal("A", 5, 5)}), bal("A", 5, 5))
	for _, l := range [][]api.Balance{
		{bal("A", 5, 6)}, {bal("A", 0, 0)}, {bal("A:B", 5, 5)}, {bal("B", 1, 1), bal("A", 1, 1)}, {bal("A", most, most), bal("B", 1, 1)},
	} {
		if s, e := From(l); s != nil || e != api.ErrView {
			t.Errorf("From(%v): %v, %d", l, s, e)
		}
	}
}
