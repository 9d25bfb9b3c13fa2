package sums

import (
	"slices"
	"strconv"
	"testing"

	"daybook/api"
)

func TestP8_1New(t *testing.T) {
	alike(t, New(), nil)
	wantState(t, New())
	alike(t, &Sums{}, nil)
	if len(New().Trial()) != 0 {
		t.Errorf("Trial: %v", New().Trial())
	}
	// One that nobody made goes on as a new one.
	x := &both{t: t, s: &Sums{}}
	x.refused(api.ErrOverflow, row("A", most), row("B", 1))
	x.take(row("A:B", 3), row("B", -3))
	alike(t, x.s, x.m)
}

func TestP8_2RowsAreAdded(t *testing.T) {
	x := fresh(t)
	for _, rows := range [][]api.Posting{
		{}, {row("A", 5)}, {row("A", 0)}, {row("Z:Z", 0)}, {row("A:B:C:D:E:F", 1), row("A:B:C:D:E:F", 1)}, {row("A-1", -4), row("A-1:B", 4)}, {row("A:B", 9), row("A", -9), row("A:B", -9)},
		{row(longestName, 77), row(longestPart, -70)}, {row("A", 4)}, {row("B:A", -1), row("A:B", -2)}, {row("A:B-1", 6), row("A:B1", 7), row("A:Ba", 8), row("AB", 9), row("A0", 10)},
	} {
		x.take(rows...)
		alike(t, x.s, x.m)
	}
}

// TestP8_2OtherFieldsDoNotCount: whatever a row has beside its account and its amount.
func TestP8_2OtherFieldsDoNotCount(t *testing.T) {
	x := fresh(t)
	x.take(api.Posting{Seq: -1, Line: least, Day: 0, Kind: 99, Key: "no key", Account: "A:B", Amount: 5, Tag: "NO", Memo: "\"\n"})
	x.take(api.Posting{Seq: most, Line: 7, Day: most, Kind: -1, Key: "\xff", Account: "A:B", Amount: 6, Tag: " ", Memo: "\x00"}, api.Posting{Account: "A:B", Amount: 7, Kind: api.KLock, Day: least})
	wantState(t, x.s, bal("A", 0, 18), bal("A:B", 18, 18))
}

// held: Sums with debits and credits near their bounds.
func held(t *testing.T) *both {
	x := fresh(t)
	x.take(row("A", most-5), row("B:C", 3), row("D", -most+9), row("D:E:F", -4), row("A:B", -1), row("G", 1), row("G:H", -1))
	return x
}

func TestP8_2ErrArg(t *testing.T) {
	for _, x := range []*both{fresh(t), held(t)} {
		for _, name := range badNames() {
			x.refused(api.ErrArg, row(name, 1))
			x.refused(api.ErrArg, row(name, 0))
		}
		x.refused(api.ErrArg, row("A", least))
		x.refused(api.ErrArg, row("Nowhere", least))
		x.refused(api.ErrArg, row("a", least))
		// At each place among good rows.
		for i := range 4 {
			for _, wrong := range []api.Posting{row("A:b", 1), row("A", least)} {
				x.refused(api.ErrArg, slices.Insert([]api.Posting{row("B:C", 1), row("D", -1), row("X:Y", 0)}, i, wrong)...)
			}
		}
	}
}

// TestP8_2ErrArgFirst: with rows that are too large as well, ahead or behind.
func TestP8_2ErrArgFirst(t *testing.T) {
	large := []api.Posting{row("A", most), row("B", most), row("C", -most), row("C", -most)}
	for _, wrong := range []api.Posting{row("", 1), row("A:b", 1), row("A", least), row("a", most)} {
		for i := range len(large) + 1 {
			for _, x := range []*both{fresh(t), held(t)} {
				rows := slices.Insert(slices.Clone(large), i, wrong)
				if got := x.m.reasons(rows); !slices.Equal(got, []api.Errno{api.ErrArg, api.ErrOverflow}) {
					t.Fatalf("%v: %v", rows, got)
				}
				x.refused(api.ErrArg, rows...)
			}
		}
	}
}

func TestP8_2Bounds(t *testing.T) {
	for _, sign := range []int64{1, -1} {
		signed := func(rows ...api.Posting) []api.Posting {
			for i := range rows {
				rows[i].Amount *= sign
			}
			return rows
		}
		taken := [][]api.Posting{
			{row("A", most)}, {row("A", most-1), row("A:B", 1)}, {row("A", most-2), row("B", 1), row("C:D", 1)}, {row("A", most/2), row("B", most/2), row("C", 1)},
			{row("A", most), row("B", -most)}, {row("A", most), row("B", -1), row("C", -most+1)}, {row("A:B", most), row("A", -most)},
			// Beyond it in between, on one account and on several, once and often.
			{row("A", most), row("A", 1), row("A", -1)}, {row("A", most), row("B", 1), row("A", -1)}, {row("A", most), row("B", most), row("A", -most)}, {row("A", most), row("B", most), row("B", -most)},
			{row("A", most), row("A", most), row("A", most), row("A", -most), row("A", -most)}, {row("A", most), row("A", most), row("A", most), row("A", -most), row("A", -most), row("A", -most)},
			{row("A", most), row("A", most), row("A", 2), row("A", -most), row("A", -most), row("A", -3)}, {row("A:B", most), row("A:C", most), row("A:B", -most), row("A:C", -most), row("A", 1)},
			{row("A:B", most), row("A:C", 1), row("A:D", 1), row("A:B", -2)}, {row("B", 1), row("A", most), row("B", -1)}, {row("A", most), row("B", -most), row("B", -1), row("B", 1)},
		}
		over := [][]api.Posting{
			{row("A", most), row("A", 1)}, {row("A", 1), row("A", most)}, {row("A", most), row("B", 1)}, {row("A", 1), row("B", most)}, {row("A", most), row("A:B", 1)}, {row("A:B", most), row("A", 1)},
			{row("A", most), row("A", most)}, {row("A", most), row("A", most), row("A", 1)}, {row("A", most), row("A", most), row("A", 2)}, {row("A", most), row("A", most), row("A", 3)}, {row("A", most), row("B", most)}, {row("A", most), row("B", most), row("C", 2)},
			{row("A", most), row("B", most), row("C", 3)}, {row("A", most), row("B", most), row("C", most), row("D", most), row("E", 4)}, {row("A", most/2+1), row("B", most/2+1)}, {row("A", most-1), row("B", 1), row("C", 1)},
			{row("A", most), row("B", -most), row("C", 1)}, {row("A", most), row("B", 1), row("C", -1)}, {row("A", most), row("B", -most), row("B", -1)}, {row("A", most), row("B", -1), row("C", -most)},
			{row("A", most), row("A", 1), row("B", -1)}, {row("A", most), row("A", most), row("A", -most), row("A", 1)}, {row("A", most), row("A", most), row("B", -most), row("B", -most)},
		}
		// From nothing, and behind rows that are gone again.
		for i, rows := range taken {
			x := fresh(t)
			x.take(signed(rows...)...)
			alike(t, x.s, x.m)
			for j := range x.m {
				x.tell(row(x.m[j].Account, -x.m[j].Amount))
			}
			if i == 0 && len(x.s.State()) > 0 {
				t.Errorf("State: %v", x.s.State())
			}
		}
		x := fresh(t)
		for _, rows := range over {
			x.refused(api.ErrOverflow, signed(rows...)...)
		}
	}
}

// TestP8_2BoundsStepByStep: at the bound, what may come is what makes room or needs none.
func TestP8_2BoundsStepByStep(t *testing.T) {
	x := fresh(t)
	x.take(row("A", most-1), row("B", -most+1))
	x.take(row("C", 1))
	x.refused(api.ErrOverflow, row("A", 1))
	x.refused(api.ErrOverflow, row("C", 1))
	x.refused(api.ErrOverflow, row("D", 1))
	x.refused(api.ErrOverflow, row("A:B", 1))
	x.take(row("D", -1))
	x.refused(api.ErrOverflow, row("E", -1))
	x.refused(api.ErrOverflow, row("B", -1))
	x.refused(api.ErrOverflow, row("D", -1))
	x.take(row("A", 0), row("E", 0))
	x.take(row("A", -1), row("E", 1))
	x.take(row("C", -1), row("E", 1))
	// From one side to the other, as far as can be.
	x.take(row("A", -most+2), row("E", most-2))
	x.refused(api.ErrOverflow, row("E", -most), row("E", -most))
	x.take(row("B", most-1), row("D", 1))
	x.take(row("E", -most), row("E", -most))
	wantState(t, x.s, bal("E", -most, -most))
	x.take(row("E", most), row("E", most))
	wantState(t, x.s, bal("E", most, most))
	x.take(row("E", -most), row("E", -most), row("F:G", most))
	wantState(t, x.s, bal("E", -most, -most), bal("F", 0, most), bal("F:G", most, most))
	x.refused(api.ErrOverflow, row("E", most), row("E", most))
	x.take(row("E", most), row("E", most), row("F:G", -most), row("F:G", -most))
	wantState(t, x.s, bal("E", most, most), bal("F", 0, -most), bal("F:G", -most, -most))
	alike(t, x.s, x.m)
}

// TestP8_2ErrorsChangeNothing: what goes on behind a refused one goes on as if it had not been.
func TestP8_2ErrorsChangeNothing(t *testing.T) {
	x, y := held(t), held(t)
	for _, rows := range [][]api.Posting{
		{row("A", -1), row("N:N", 1), row("A:b", 1)}, {row("A", -1), row("N:N", 1), row("A", least)}, {row("N:N", 1), row("A", most)}, {row("G", -1), row("D", -most)}, {row("A", -most), row("A", -most), row("N", 1)},
	} {
		if e := x.tell(rows...); e == api.OK {
			t.Fatalf("%v were taken", rows)
		}
		alike(t, x.s, x.m, "N", "N:N")
	}
	for _, z := range []*both{x, y} {
		z.take(row("A", 2), row("G", -1), row("N:N", -2))
	}
	alike(t, x.s, y.m)
}

func TestP8_3OwnAndRollup(t *testing.T) {
	x := fresh(t)
	names := []string{"A", "A-1", "A-1:B", "A0", "AA", "Aa", "A:A", "A:B", "A:B-1", "A:B:C", "A:B:C:D", "A:B:C:D:E", "A:B:C:D:E:F", "A:B:CC", "B", "B:A", "B:A:B", longestName}
	n := int64(1)
	for _, name := range names {
		x.take(row(name, n))
		n *= 3
	}
	alike(t, x.s, x.m, names...)
	for _, name := range names {
		if x.s.Own(name) == 0 || x.s.Rollup(name) < x.s.Own(name) {
			t.Errorf("%s: %d, %d", name, x.s.Own(name), x.s.Rollup(name))
		}
	}
	for _, name := range badNames() {
		if x.s.Own(name) != 0 || x.s.Rollup(name) != 0 {
			t.Errorf("%q: %d, %d", name, x.s.Own(name), x.s.Rollup(name))
		}
	}
	// An account whose own balance is 0, and that has accounts below; one with neither.
	x.take(row("A:B", -x.s.Own("A:B")))
	if x.s.Own("A:B") != 0 || x.s.Rollup("A:B") == 0 || x.s.Own("A:B:D") != 0 || x.s.Rollup("A:B:D") != 0 {
		t.Errorf("%v", x.s.State())
	}
	alike(t, x.s, x.m, names...)
}

func TestP8_3RollupAtTheBounds(t *testing.T) {
	x := fresh(t)
	x.take(row("A:B", most), row("A:C", -most), row("B:A", 0))
	wantState(t, x.s, bal("A", 0, 0), bal("A:B", most, most), bal("A:C", -most, -most))
	x.take(row("A:B", -most), row("A:B:A", most-1), row("A:B:B", 1), row("A:C", 1), row("A", -1))
	alike(t, x.s, x.m)
	if got := x.s.Rollup("A:B"); got != most {
		t.Errorf("Rollup(A:B): %d", got)
	}
}

func TestP8_4TrialAndTotals(t *testing.T) {
	x := fresh(t)
	x.take(row("B", 5), row("A:B:C", -3), row("A", 2), row("A-1", -1), row("Z", 0), row("X:Y", 4), row("X:Y", -4))
	if got := x.s.Trial(); !slices.Equal(got, []api.Column{debit("A", 2), credit("A-1", 1), credit("A:B:C", 3), debit("B", 5)}) {
		t.Errorf("Trial: %v", got)
	}
	if d, c := x.s.Totals(); d != 7 || c != 4 {
		t.Errorf("Totals: %d, %d", d, c)
	}
	x.take(row("B", -6), row("A:B:C", 4))
	if got := x.s.Trial(); !slices.Equal(got, []api.Column{debit("A", 2), credit("A-1", 1), debit("A:B:C", 1), credit("B", 1)}) {
		t.Errorf("Trial: %v", got)
	}
	if d, c := x.s.Totals(); d != 3 || c != 2 {
		t.Errorf("Totals: %d, %d", d, c)
	}
	x = fresh(t)
	x.take(row("A", most), row("B", -most))
	if got := x.s.Trial(); !slices.Equal(got, []api.Column{debit("A", most), credit("B", most)}) {
		t.Errorf("Trial: %v", got)
	}
	if d, c := x.s.Totals(); d != most || c != most {
		t.Errorf("Totals: %d, %d", d, c)
	}
}

// TestP8_5StateTellsWhatIsHeld: names come with the first own balance at or below them, and go with the last.
func TestP8_5StateTellsWhatIsHeld(t *testing.T) {
	x := fresh(t)
	x.take(row("A:B:C", 4))
	wantState(t, x.s, bal("A", 0, 4), bal("A:B", 0, 4), bal("A:B:C", 4, 4))
	x.take(row("A:B:D", -4))
	wantState(t, x.s, bal("A", 0, 0), bal("A:B", 0, 0), bal("A:B:C", 4, 4), bal("A:B:D", -4, -4))
	x.take(row("A:B", 4), row("A", -4))
	wantState(t, x.s, bal("A", -4, 0), bal("A:B", 4, 4), bal("A:B:C", 4, 4), bal("A:B:D", -4, -4))
	x.take(row("A:B:C", -4))
	wantState(t, x.s, bal("A", -4, -4), bal("A:B", 4, 0), bal("A:B:D", -4, -4))
	x.take(row("A:B", -4))
	wantState(t, x.s, bal("A", -4, -8), bal("A:B", 0, -4), bal("A:B:D", -4, -4))
	x.take(row("A", 4))
	wantState(t, x.s, bal("A", 0, -4), bal("A:B", 0, -4), bal("A:B:D", -4, -4))
	x.take(row("A:B:D", 4))
	wantState(t, x.s)
	if len(x.s.Trial()) > 0 {
		t.Errorf("Trial: %v", x.s.Trial())
	}
	alike(t, x.s, x.m)
}

// TestP8_5Deep: all names above one that is as deep and as long as can be.
func TestP8_5Deep(t *testing.T) {
	x := fresh(t)
	x.take(row(longestName, most))
	got := x.s.State()
	if len(got) != 6 || got[5] != bal(longestName, most, most) || got[0] != bal(longestPart, 0, most) {
		t.Errorf("State: %v", got)
	}
	alike(t, copyOf(t, got), x.m)
}

// TestManyAccounts: no limit of accounts is named here, and each row is quickly taken.
func TestManyAccounts(t *testing.T) {
	s := New()
	const n = 20000
	name := func(i int) string { return "R" + strconv.Itoa(i%7) + ":K" + strconv.Itoa(i) }
	for i := range n {
		if e := s.Apply([]api.Posting{row(name(i), int64(i+1))}); e != api.OK {
			t.Fatalf("row %d: %d", i, e)
		}
	}
	if d, c := s.Totals(); d != n*(n+1)/2 || c != 0 || len(s.State()) != n+7 || len(s.Trial()) != n {
		t.Errorf("%d, %d, %d, %d", d, c, len(s.State()), len(s.Trial()))
	}
	all := copyOf(t, s.State())
	for i := range n {
		if e := all.Apply([]api.Posting{row(name(i), int64(-i-1))}); e != api.OK {
			t.Fatalf("row %d: %d", i, e)
		}
	}
	wantState(t, all)
	alike(t, all, nil)
	one := make([]api.Posting, 3*n)
	for i := range one {
		one[i] = row("A", most-int64(i%3)*most)
	}
	if e := s.Apply(one); e != api.OK {
		t.Errorf("rows that add up to 0: %d", e)
	}
}
