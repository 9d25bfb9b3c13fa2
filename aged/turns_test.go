package aged

import (
	"slices"
	"testing"
)

// TestTurnsComeByDays: in whatever order they are put in, with some taken out in between.
func TestTurnsComeByDays(t *testing.T) {
	r := source(8)
	for range 500 {
		var h turns
		var days []int
		for range r.IntN(60) {
			if len(h) > 0 && r.IntN(3) == 0 {
				if got := h.pop().day; got != days[0] {
					t.Fatalf("%d, want %d", got, days[0])
				}
				days = days[1:]
				continue
			}
			day := r.IntN(30)
			h.push(turn{day, &claim{}})
			days = append(days, day)
			slices.Sort(days)
		}
		for _, day := range days {
			if got := h.pop(); got.day != day || got.claim == nil {
				t.Fatalf("%v, want %d", got, day)
			}
		}
		for _, x := range h[:cap(h)] {
			if x.claim != nil {
				t.Fatal("a claim is kept behind the end")
			}
		}
	}
}

// TestTurnsAreUsedUp: those of days that are gone are not kept, nor those that never come.
func TestTurnsAreUsedUp(t *testing.T) {
	x := some(t)
	x.goesTo(0, d+1000)
	x.invoices(0, inv("late", "ann", d, lastDay-40, 5), inv("past", "ann", d, d, 5))
	x.allotments(0, alt("p", "late", lastDay, 1), alt("p", "late", d, 1))
	if len(x.a.turns) != 3 { // late: 1 and 31 days behind its Due, and what is allotted on the last day
		t.Errorf("%d turns", len(x.a.turns))
	}
	x.goesTo(0, lastDay)
	if len(x.a.turns) != 0 {
		t.Errorf("%d turns", len(x.a.turns))
	}
	alike(t, x.a, x.m)
}
