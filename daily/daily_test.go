package daily

import (
	"slices"
	"strconv"
	"testing"

	"daybook/api"
)

// kin: accounts of which one is above or below another, or begins as another does.
func kin() []string {
	return []string{"A", "A-", "A-1", "A-1:B", "A0", "AA", "Aa", "A:A", "A:B", "A:B-1", "A:B:C", "A:B:C:D", "A:B:C:D:E", "A:B:C:D:E:F", "A:BB", "A:Bb", "B", "B:A", "B:A:B", longestPart, longestName}
}

func TestP9_1New(t *testing.T) {
	alike(t, New(), nil, kin()...)
	wantState(t, New())
	alike(t, &Daily{}, nil)
	// One that nobody made goes on as a new one.
	x := &both{t: t, d: &Daily{}}
	x.take(row("A", 5, 0))
	x.refused(api.ErrOverflow, row("A", 5, most), row("A", 6, 1))
	x.take(row("A:B", 3, 3), row("B", 2, -3))
	alike(t, x.d, x.m)
}

func TestP9_2RowsAreAdded(t *testing.T) {
	x := fresh(t)
	for _, rows := range [][]api.Posting{
		{}, {row("A", 5, 5)}, {row("A", 5, 0)}, {row("Z:Z", 5, 0)}, {row("A:B:C:D:E:F", 9, 1), row("A:B:C:D:E:F", 9, 1)}, {row("A-1", firstDay, -4), row("A-1:B", lastDay, 4)},
		{row("A:B", 7, 9), row("A", 6, -9), row("A:B", 7, -9)}, {row(longestName, 800000, 77), row(longestPart, 799999, -70)}, {row("A", 5, 4)}, {row("A", 4, 4), row("A", 6, 4), row("A", 5, -9)},
		{row("B:A", 2, -1), row("A:B", 7, -2)}, {row("A", lastDay, 8), row("A", firstDay, 7)}, {row("A", lastDay-1, 8), row("A", firstDay+1, 7), row("A", 8, 1)}, {row("A", 9, 3), row("A", 7, 2), row("A", 8, 1)},
	} {
		x.take(rows...)
		alike(t, x.d, x.m)
	}
}

// TestP9_2OtherFieldsDoNotCount: whatever a row has beside its account, its day and its amount.
func TestP9_2OtherFieldsDoNotCount(t *testing.T) {
	x := fresh(t)
	x.take(api.Posting{Seq: -1, Line: least, Day: 8, Kind: 99, Key: "no key", Account: "A:B", Amount: 5, Tag: "NO", Memo: "\"\n"})
	x.take(api.Posting{Seq: most, Line: 7, Day: 8, Kind: -1, Key: "\xff", Account: "A:B", Amount: 6, Tag: " ", Memo: "\x00"}, api.Posting{Account: "A:B", Amount: 7, Kind: api.KLock, Day: 8})
	wantState(t, x.d, dr("A:B", 8, 18, 18))
}

// held: a view with changes and balances near their bounds, on both sides.
func held(t *testing.T) *both {
	x := fresh(t)
	x.take(row("A", 10, most-5), row("A", 20, -3), row("A", 30, 4), row("A:B", 10, -most+5), row("A:B", 20, 3), row("B", 15, 7), row("B", 25, -most), row("B", 35, most), row("G", 10, 1), row("G", 11, -1))
	return x
}

func TestP9_2ErrArg(t *testing.T) {
	for _, x := range []*both{fresh(t), held(t)} {
		for _, name := range badNames() {
			x.refused(api.ErrArg, row(name, 10, 1))
			x.refused(api.ErrArg, row(name, 10, 0))
		}
		for _, day := range badDays() {
			x.refused(api.ErrArg, row("A", day, 1))
			x.refused(api.ErrArg, row("A", day, 0))
		}
		x.refused(api.ErrArg, row("A", 10, least))
		x.refused(api.ErrArg, row("Nowhere", 10, least))
		x.refused(api.ErrArg, row("a", 0, least))
		// At each place among good rows.
		for i := range 4 {
			for _, r := range []api.Posting{row("A:b", 10, 1), row("A", 0, 1), row("A", lastDay+1, 1), row("A", 10, least)} {
				x.refused(api.ErrArg, slices.Insert([]api.Posting{row("B", 10, 1), row("A", 9, -1), row("X:Y", 8, 0)}, i, r)...)
			}
		}
	}
}

func TestP9_2EveryDayMayBe(t *testing.T) {
	x := fresh(t)
	x.take(row("A", lastDay, 1), row("A", firstDay, 2))
	wantState(t, x.d, dr("A", firstDay, 2, 2), dr("A", lastDay, 1, 3))
	for day := firstDay; day <= lastDay; day += 9973 {
		x.d.Apply([]api.Posting{row("B", day, 1)})
	}
	if got := x.d.At("B", most); got != (lastDay-firstDay)/9973+1 {
		t.Errorf("At(B): %d", got)
	}
}

// TestP9_2ErrArgFirst: with rows that are too large as well, ahead or behind.
func TestP9_2ErrArgFirst(t *testing.T) {
	over := [][]api.Posting{
		{row("A", 10, most), row("A", 10, most)}, {row("A", 10, most), row("A", 11, 9)}, {row("C", 5, most), row("C", 6, -most), row("C", 6, -1)}, {row("C", 6, -most), row("C", 5, -1)},
	}
	for _, r := range []api.Posting{row("", 5, 1), row("A:b", 5, 1), row("A", 0, 1), row("A", lastDay+1, 0), row("A", most, 1), row("C", 5, least), row("a", 0, most)} {
		for _, large := range over {
			for i := range len(large) + 1 {
				for _, x := range []*both{fresh(t), held(t)} {
					rows := slices.Insert(slices.Clone(large), i, r)
					if got := x.m.reasons(rows); !slices.Equal(got, []api.Errno{api.ErrArg, api.ErrOverflow}) {
						t.Fatalf("%v: %v", rows, got)
					}
					x.refused(api.ErrArg, rows...)
				}
			}
		}
	}
}

// opposite: the same rows, with the opposite amounts where sign is -1.
func opposite(rows []api.Posting, sign int64) []api.Posting {
	rows = slices.Clone(rows)
	for i := range rows {
		rows[i].Amount *= sign
	}
	return rows
}

// atBounds: rows that a new view takes, though they reach the bounds or leave them in between.
var atBounds = [][]api.Posting{
	{row("A", 5, most)}, {row("A", 5, most-1), row("A", 6, 1)}, {row("A", 6, most-1), row("A", 5, 1)}, {row("A", 5, most), row("A", 6, -most), row("A", 7, most)}, {row("A", 5, most), row("A", 6, -most), row("A", 7, -most)},
	{row("A", 5, most), row("A:B", 5, most), row("B", 5, most)}, {row("A", 5, most), row("A:B", 4, 1)}, {row("A", firstDay, most), row("A", lastDay, -most)},
	// The change of a day beyond it in between, once and often.
	{row("A", 5, most), row("A", 5, 1), row("A", 5, -1)}, {row("A", 5, most), row("A", 5, most), row("A", 5, most), row("A", 5, -most), row("A", 5, -most)}, {row("A", 5, most), row("A", 5, most), row("A", 5, 2), row("A", 5, -most), row("A", 5, -most), row("A", 5, -3)},
	{row("A", 5, most), row("A", 5, most), row("A", 5, -most), row("A", 5, -most)}, {row("A", 5, -1), row("A", 5, -most), row("A", 5, 2)},
	// The balance of the day, or of a later one, beyond it in between.
	{row("A", 5, most), row("A", 4, 1), row("A", 4, -1)}, {row("A", 5, most), row("A", 4, 1), row("A", 5, -1)}, {row("A", 5, most), row("A", 4, most), row("A", 5, -most)}, {row("A", 6, most), row("A", 4, 1), row("A", 5, -1)},
	{row("A", 6, most), row("A", 5, most), row("A", 4, most), row("A", 5, -most), row("A", 6, -most)}, {row("A", 4, most), row("A", 6, most), row("A", 5, -most)}, {row("A", 5, most), row("A", 7, 2), row("A", 6, -2)}, {row("B", 5, 1), row("A", 5, most), row("A", 9, 1), row("A", 9, -1)},
}

// beyondBounds: rows that no new view takes.
var beyondBounds = [][]api.Posting{
	// A change.
	{row("A", 5, most), row("A", 5, 1)}, {row("A", 5, 1), row("A", 5, most)}, {row("A", 5, most), row("A", 5, most)}, {row("A", 5, most), row("A", 5, most), row("A", 5, 1)}, {row("A", 5, most), row("A", 5, most), row("A", 5, 2)}, {row("A", 5, most), row("A", 5, most), row("A", 5, 3)},
	{row("A", 5, most), row("A", 5, most), row("A", 5, most), row("A", 5, most), row("A", 5, 4)}, {row("A", 5, most), row("A", 5, most), row("A", 5, -most), row("A", 5, 1)}, {row("A", 5, most), row("A", 5, 1), row("A", 6, -1)},
	// A change alone: all balances are amounts.
	{row("A", 4, -1), row("A", 5, most), row("A", 5, 1)}, {row("A", 4, -most), row("A", 5, most), row("A", 5, 1)}, {row("A", 4, -most), row("A", 5, most), row("A", 5, most)}, {row("A", 5, most), row("A", 5, 2), row("A", 4, -5)}, {row("A", 5, -most), row("A", 5, -1), row("A", 4, most)},
	// A balance alone: all changes are amounts.
	{row("A", 5, most), row("A", 6, 1)}, {row("A", 5, 1), row("A", 6, most)}, {row("A", 6, most), row("A", 5, 1)}, {row("A", 6, 1), row("A", 5, most)}, {row("A", 5, most), row("A", 6, most)}, {row("A", 5, most), row("A", 6, most), row("A", 7, 2)}, {row("A", 5, most), row("A", 6, most), row("A", 7, 3)},
	{row("A", 5, most), row("A", 6, 1), row("A", 7, -1)}, {row("A", 7, -1), row("A", 6, 1), row("A", 5, most)}, {row("A", 5, most), row("A", 6, -1), row("A", 7, 2)}, {row("A", firstDay, most), row("A", lastDay, 1)}, {row("A", 5, most/2+1), row("A", 900, most/2+1)}, {row("A", 5, most), row("A", 6, most), row("A", 7, -most)},
	// On one account of several, whichever it is.
	{row("B", 5, 1), row("A", 5, most), row("A", 6, 1)}, {row("A", 5, 1), row("B", 5, most), row("B", 6, 1)}, {row("A", 5, most), row("A", 6, 1), row("A:B", 6, -1), row("A:B", 5, -most)}, {row("A", 5, most), row("A:B", 5, most), row("A:B", 5, 1)},
}

func TestP9_2Bounds(t *testing.T) {
	for _, sign := range []int64{1, -1} {
		for _, rows := range atBounds {
			rows = opposite(rows, sign)
			x, y := fresh(t), fresh(t)
			x.take(rows...)
			slices.Reverse(rows)
			y.take(rows...)
			alike(t, x.d, x.m)
			alike(t, y.d, x.m)
		}
		x := fresh(t)
		for _, rows := range beyondBounds {
			rows = opposite(rows, sign)
			x.refused(api.ErrOverflow, rows...)
			slices.Reverse(rows)
			x.refused(api.ErrOverflow, rows...)
		}
	}
}

// TestP9_2BoundsStepByStep: at the bound, what may come is what makes room or needs none.
func TestP9_2BoundsStepByStep(t *testing.T) {
	for _, sign := range []int64{1, -1} {
		x := fresh(t)
		one := func(day int, n int64) api.Posting { return row("A", day, sign*n) }
		x.take(one(20, most-1))
		x.take(one(10, 1))
		for _, day := range []int{firstDay, 9, 10, 11, 19, 20, 21, lastDay} {
			x.refused(api.ErrOverflow, one(day, 1))
			x.take(one(day, 0))
			x.take(one(day, 1), one(day, -1))
		}
		// Behind the bound there is room from the day on that makes it.
		x.take(one(30, -2))
		x.refused(api.ErrOverflow, one(29, 1))
		x.refused(api.ErrOverflow, one(29, 1), one(30, -1))
		x.take(one(31, 2))
		x.refused(api.ErrOverflow, one(30, 1))
		x.take(one(30, 1), one(31, -1))
		x.refused(api.ErrOverflow, one(31, 1))
		// Ahead of it there is room if as much goes away again in time.
		x.take(one(5, 7), one(15, -7))
		x.refused(api.ErrOverflow, one(5, 7), one(21, -7))
		x.take(one(5, -7), one(15, 7))
		x.refused(api.ErrOverflow, one(15, -7), one(20, 7), one(5, 8))
		x.take(one(15, -7), one(5, 7))
		alike(t, x.d, x.m)
	}
}

// TestP9_2ChangeAlone: a change that is no amount, where all balances are and the row itself is small.
func TestP9_2ChangeAlone(t *testing.T) {
	for _, sign := range []int64{1, -1} {
		x := fresh(t)
		one := func(day int, n int64) api.Posting { return row("A", day, sign*n) }
		x.take(one(5, most), one(6, -most), one(7, -most))
		x.refused(api.ErrOverflow, one(6, -1))
		x.refused(api.ErrOverflow, one(6, -1), one(7, 1))
		x.refused(api.ErrOverflow, one(6, -most))
		x.refused(api.ErrOverflow, one(5, -1), one(6, -1), one(7, 2))
		x.take(one(5, -1), one(7, 1))
		x.take(one(6, 1), one(7, -1))
		alike(t, x.d, x.m)
	}
}

// TestP9_2ErrorsChangeNothing: what goes on behind a refused one goes on as if it had not been.
func TestP9_2ErrorsChangeNothing(t *testing.T) {
	x, y := held(t), held(t)
	for _, rows := range [][]api.Posting{
		{row("A", 12, -1), row("N:N", 5, 1), row("A:b", 5, 1)}, {row("A", 5, -1), row("N:N", 5, 1), row("A", 5, least)}, {row("G", 10, -1), row("G", 11, 1), row("A", 0, 1)}, {row("N:N", 5, 1), row("A", 10, most)}, {row("G", 10, -1), row("G", 11, 1), row("B", 25, -1)},
		{row("A", 9, 1), row("A", 10, -1), row("A:B", 9, -1), row("B", 24, -8), row("G", 10, 5), row("N:N", 5, 1)},
	} {
		for range 20 { // in whatever order a map is gone through
			if e := x.tell(rows...); e == api.OK {
				t.Fatalf("%v were taken", rows)
			}
			alike(t, x.d, x.m, "N", "N:N")
		}
	}
	for _, z := range []*both{x, y} {
		z.take(row("A", 10, 2), row("G", 9, -1), row("N:N", 5, -2))
	}
	alike(t, x.d, y.m)
	alike(t, y.d, x.m)
}

func TestP9_3At(t *testing.T) {
	x := fresh(t)
	x.take(row("A", firstDay, 1), row("A", 100, 10), row("A", 200, -100), row("A", lastDay, 1000), row("B", 100, 5))
	for _, ask := range []struct {
		day  int
		want int64
	}{
		{least, 0}, {-most, 0}, {-1, 0}, {0, 0}, {1, 1}, {2, 1}, {99, 1}, {100, 11}, {101, 11}, {199, 11}, {200, -89}, {201, -89}, {lastDay - 1, -89}, {lastDay, 911}, {lastDay + 1, 911}, {most - 1, 911}, {most, 911},
	} {
		if got := x.d.At("A", ask.day); got != ask.want {
			t.Errorf("At(A, %d): %d, want %d", ask.day, got, ask.want)
		}
	}
	for _, name := range append(badNames(), "C", "A:B", "A-") {
		for _, day := range []int{least, 0, 1, 100, lastDay, most} {
			if got := x.d.At(name, day); got != 0 {
				t.Errorf("At(%q, %d): %d", name, day, got)
			}
		}
	}
	alike(t, x.d, x.m)
}

func TestP9_4Between(t *testing.T) {
	x := fresh(t)
	x.take(row("A", firstDay, 1), row("A", 100, 10), row("A", 200, -11), row("A", 300, 4), row("A", 300, -4), row("A", lastDay, 1000), row("A:B", 150, 5))
	all := []api.DayRow{dr("A", firstDay, 1, 1), dr("A", 100, 10, 11), dr("A", 200, -11, 0), dr("A", lastDay, 1000, 1000)}
	for _, ask := range []struct {
		from, to int
		want     []api.DayRow
	}{
		{least, most, all}, {firstDay, lastDay, all}, {0, lastDay + 1, all}, {firstDay + 1, lastDay - 1, all[1:3]}, {100, 200, all[1:3]}, {100, 100, all[1:2]}, {99, 101, all[1:2]}, {101, 199, nil}, {101, 200, all[2:3]}, {100, 199, all[1:2]}, {300, 300, nil}, {201, lastDay - 1, nil},
		{least, least, nil}, {least, 0, nil}, {least, 1, all[:1]}, {lastDay, most, all[3:]}, {lastDay + 1, most, nil}, {most, most, nil}, {0, 0, nil}, {firstDay, firstDay, all[:1]}, {lastDay, lastDay, all[3:]},
		{200, 100, nil}, {most, least, nil}, {101, 100, nil}, {lastDay, firstDay, nil}, {1, 0, nil}, {lastDay + 1, lastDay, nil}, {0, least, nil}, {most, lastDay, nil},
	} {
		if got := x.d.Between("A", ask.from, ask.to); !slices.Equal(got, ask.want) {
			t.Errorf("Between(A, %d, %d): %v, want %v", ask.from, ask.to, got, ask.want)
		}
	}
	for _, name := range append(badNames(), "C", "A-", "A:B:C") {
		if got := x.d.Between(name, least, most); len(got) > 0 {
			t.Errorf("Between(%q): %v", name, got)
		}
	}
	alike(t, x.d, x.m)
}

// TestP9_5StateOrder: by account, byte by byte, and then by day.
func TestP9_5StateOrder(t *testing.T) {
	x := fresh(t)
	for i, name := range kin() {
		x.take(row(name, 1000-i, int64(i+1)), row(name, 2000+i, -5), row(name, 500, 9))
	}
	got := x.d.State()
	for i := range got[1:] {
		if !rises(got[i], got[i+1]) {
			t.Errorf("%v stands ahead of %v", got[i], got[i+1])
		}
	}
	if len(got) != 3*len(kin()) {
		t.Errorf("State: %v", got)
	}
	alike(t, x.d, x.m, kin()...)

	x = fresh(t)
	x.take(row("A:B", 1, 1), row("AB", 2, 2), row("A-1", 3, 3), row("A", 4, 4), row("A0", 5, 5))
	wantState(t, x.d, dr("A", 4, 4, 4), dr("A-1", 3, 3, 3), dr("A0", 5, 5, 5), dr("A:B", 1, 1, 1), dr("AB", 2, 2, 2))
}

// TestP9_5BackToNothing: days whose change comes back to 0 are told no more, though their balance is not 0; nor are accounts without days.
func TestP9_5BackToNothing(t *testing.T) {
	x := fresh(t)
	x.take(row("A", 5, 4), row("A", 7, 3), row("A", 9, -7), row("A:B", 7, 1))
	wantState(t, x.d, dr("A", 5, 4, 4), dr("A", 7, 3, 7), dr("A", 9, -7, 0), dr("A:B", 7, 1, 1))
	x.take(row("A", 7, -3))
	wantState(t, x.d, dr("A", 5, 4, 4), dr("A", 9, -7, -3), dr("A:B", 7, 1, 1))
	if got := x.d.Between("A", 6, 8); len(got) > 0 || x.d.At("A", 7) != 4 {
		t.Errorf("Between(A, 6, 8): %v; At(A, 7): %d", got, x.d.At("A", 7))
	}
	x.take(row("A", 5, -4), row("A", 5, 2), row("A", 5, -2))
	wantState(t, x.d, dr("A", 9, -7, -7), dr("A:B", 7, 1, 1))
	x.take(row("A", 7, 3))
	wantState(t, x.d, dr("A", 7, 3, 3), dr("A", 9, -7, -4), dr("A:B", 7, 1, 1))
	x.take(row("A", 9, 7))
	wantState(t, x.d, dr("A", 7, 3, 3), dr("A:B", 7, 1, 1))
	x.take(row("A", 7, -3))
	wantState(t, x.d, dr("A:B", 7, 1, 1))
	x.take(row("A:B", 7, -1))
	wantState(t, x.d)
	if len(x.d.accounts) > 0 {
		t.Errorf("%d accounts are kept", len(x.d.accounts))
	}
	// A day with a change and the balance 0 is told.
	x.take(row("A", 5, 4), row("A", 6, -4))
	wantState(t, x.d, dr("A", 5, 4, 4), dr("A", 6, -4, 0))
	alike(t, x.d, x.m)
}

// TestP9_8EarlierDays: one row more, at every place among those that are there, and on each of their days.
func TestP9_8EarlierDays(t *testing.T) {
	there := []api.Posting{row("A", 10, 3), row("A", 20, -5), row("A", 30, 7), row("A:B", 20, 100), row("A-1", 20, 50)}
	for _, day := range []int{firstDay, 9, 10, 11, 15, 19, 20, 21, 29, 30, 31, lastDay} {
		for _, n := range []int64{1, -3, 5, -7, 0, 1000} {
			x := fresh(t)
			x.take(there...)
			before := copyOf(t, x.d.State())
			x.take(row("A", day, n))
			for _, ask := range askedDays(x.m, "A") {
				want := before.At("A", ask)
				if ask >= day {
					want += n
				}
				if got := x.d.At("A", ask); got != want {
					t.Errorf("%d on day %d: At(A, %d): %d, want %d", n, day, ask, got, want)
				}
			}
			if got := x.d.Between("A", least, day-1); !slices.Equal(got, before.Between("A", least, day-1)) {
				t.Errorf("%d on day %d changed the days ahead of it: %v", n, day, got)
			}
			for _, name := range []string{"A:B", "A-1"} {
				if got := x.d.Between(name, least, most); !slices.Equal(got, before.Between(name, least, most)) {
					t.Errorf("%d on day %d changed %s: %v", n, day, name, got)
				}
			}
			alike(t, x.d, x.m)
		}
	}
}

// TestP9_8OtherAccounts: a row changes its own account alone, however near its name is to another one.
func TestP9_8OtherAccounts(t *testing.T) {
	for _, at := range kin() {
		x := fresh(t)
		for i, name := range kin() {
			x.take(row(name, 10+i, 7), row(name, 100, -2))
		}
		before := copyOf(t, x.d.State())
		x.take(row(at, 5, 1000), row(at, 100, 2), row(at, 300, 1))
		for _, name := range kin() {
			same := slices.Equal(x.d.Between(name, least, most), before.Between(name, least, most)) && x.d.At(name, 50) == before.At(name, 50) && x.d.At(name, most) == before.At(name, most)
			if same != (name != at) {
				t.Errorf("rows on %s: %s is changed: %v", at, name, !same)
			}
		}
		alike(t, x.d, x.m, kin()...)
	}
}

// TestManyDays: no limit of days or accounts is named here, and each row is quickly taken.
func TestManyDays(t *testing.T) {
	const n = 20000
	up, down := New(), New()
	for i := range n {
		day := 1 + i*7
		if e := up.Apply([]api.Posting{row("A", day, int64(i+1)), row("R"+strconv.Itoa(i), day, 1)}); e != api.OK {
			t.Fatalf("row %d: %d", i, e)
		}
	}
	all := []api.Posting{}
	for i := range n {
		all = append(all, row("A", 1+(n-1-i)*7, int64(n-i)))
	}
	if e := down.Apply(all); e != api.OK {
		t.Fatalf("rows of falling days: %d", e)
	}
	if got := down.At("A", lastDay); got != n*(n+1)/2 || up.At("A", lastDay) != got || len(up.State()) != 2*n || !slices.Equal(down.State(), up.Between("A", least, most)) {
		t.Errorf("%d, %d, %d", got, up.At("A", lastDay), len(up.State()))
	}
	back := copyOf(t, up.State())
	for i := n - 1; i >= 0; i-- {
		if e := back.Apply([]api.Posting{row("A", 1+i*7, int64(-i-1)), row("R"+strconv.Itoa(i), 1+i*7, -1)}); e != api.OK {
			t.Fatalf("row %d: %d", i, e)
		}
	}
	wantState(t, back)
	one := make([]api.Posting, 3*n)
	for i := range one {
		one[i] = row("A", 5, most-int64(i%3)*most)
	}
	if e := up.Apply(one); e != api.OK {
		t.Errorf("rows that add up to 0: %d", e)
	}
}
