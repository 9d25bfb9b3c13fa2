package daily

import (
	"math/big"
	"math/rand/v2"
	"slices"
	"testing"

	"daybook/api"
)

var (
	walkNames = []string{"A", "A-1", "A-1:B", "A:A", "A:B", "A:B:C", "B", longestName}
	walkDays  = []int{firstDay, 2, 3, 4, 5, 700, 701, 702, lastDay - 1, lastDay}
)

// anyAmount: of every length, at the bounds too; small makes it one that comes back to 0 often.
func anyAmount(r *rand.Rand, small bool) int64 {
	n := int64(r.IntN(4))
	if !small {
		n = [...]int64{most, most - 1, most/2 + 1, 1, r.Int64() >> r.IntN(63), r.Int64() >> r.IntN(8)}[r.IntN(6)]
	}
	if r.IntN(2) == 0 {
		return -n
	}
	return n
}

func anyRow(r *rand.Rand, small bool) api.Posting {
	return row(walkNames[r.IntN(len(walkNames))], walkDays[r.IntN(len(walkDays))], anyAmount(r, small))
}

func anyRows(r *rand.Rand, small bool) []api.Posting {
	rows := []api.Posting{}
	for range r.IntN(6) {
		rows = append(rows, anyRow(r, small))
	}
	if len(rows) > 0 && r.IntN(15) == 0 {
		i := r.IntN(len(rows))
		rows[i] = [...]api.Posting{row("A:b", 2, 1), row("A", 2, least), row("", 2, 0), row("A", 0, 1), row("A", lastDay+1, 1)}[r.IntN(5)]
	}
	return rows
}

// TestWalks: everything that is told, behind every step, with views made anew of the State all the time.
func TestWalks(t *testing.T) {
	met := map[api.Errno]int{}
	for n := range uint64(50) {
		r := source(100 + n)
		x, twin := fresh(t), New()
		small := n%2 == 0
		for range 40 {
			rows := anyRows(r, small)
			if r.IntN(5) == 0 { // what is there goes away, or to the other side
				rows = opposite(x.m, -1)
				if r.IntN(2) == 0 {
					rows = append(rows, rows...)
				}
			}
			e := x.tell(rows...)
			met[e]++
			if got := twin.Apply(rows); got != e {
				t.Fatalf("Apply(%v) of a view made of a State: %d, want %d", rows, got, e)
			}
			x.m = brief(x.m)
			alike(t, x.d, x.m, walkNames...)
			alike(t, twin, x.m, walkNames...)
			if r.IntN(3) > 0 {
				twin = copyOf(t, x.d.State())
			}
		}
	}
	if met[api.OK] < 500 || met[api.ErrArg] < 50 || met[api.ErrOverflow] < 200 {
		t.Errorf("answers: %v", met)
	}
}

// pieces: a list cut at random into lists.
func pieces(r *rand.Rand, rows []api.Posting) (l [][]api.Posting) {
	for len(rows) > 0 {
		n := 1 + r.IntN(len(rows))
		l = append(l, rows[:n])
		rows = rows[n:]
	}
	return l
}

// TestP9_6Order: in any order and any pieces; where a piece is refused, the order does not count.
func TestP9_6Order(t *testing.T) {
	r := source(2)
	taken := 0
	for n := range 500 {
		rows := []api.Posting{}
		for range 2 + r.IntN(20) {
			rows = append(rows, anyRow(r, n%4 > 0))
		}
		first := fresh(t)
		if first.tell(rows...) != api.OK {
			continue
		}
	orders:
		for range 6 {
			r.Shuffle(len(rows), func(i, j int) { rows[i], rows[j] = rows[j], rows[i] })
			d := New()
			for _, piece := range pieces(r, rows) {
				if d.Apply(piece) != api.OK {
					continue orders
				}
				if r.IntN(3) == 0 {
					d = copyOf(t, d.State())
				}
			}
			taken++
			wantState(t, d, first.d.State()...)
			wantState(t, d, first.m.state()...)
		}
	}
	if taken < 1000 {
		t.Errorf("only %d orders were taken", taken)
	}
}

// TestP9_6AllOrders: rows of one account, at one time, one by one in every order, and by days rising and falling.
func TestP9_6AllOrders(t *testing.T) {
	rows := []api.Posting{row("A", 3, 5), row("A", 1, -2), row("A", 2, 4), row("A", 3, -5), row("A", 1, 1), row("A", 4, 8)}
	first := fresh(t)
	first.take(rows...)
	wantState(t, first.d, dr("A", 1, -1, -1), dr("A", 2, 4, 3), dr("A", 4, 8, 11))
	var permute func(n int)
	permute = func(n int) {
		if n == len(rows) {
			d := New()
			for _, r := range rows {
				if e := d.Apply([]api.Posting{r}); e != api.OK {
					t.Fatalf("Apply(%v): %d", r, e)
				}
			}
			wantState(t, d, first.d.State()...)
			return
		}
		for i := n; i < len(rows); i++ {
			rows[n], rows[i] = rows[i], rows[n]
			permute(n + 1)
			rows[n], rows[i] = rows[i], rows[n]
		}
	}
	permute(0)
}

// TestP9_6GoesOnAlike: a view of a State takes and refuses what one takes and refuses that was told the rows.
func TestP9_6GoesOnAlike(t *testing.T) {
	x := held(t)
	for _, rows := range [][]api.Posting{
		{row("A", 9, 4)}, {row("A", 9, 5)}, {row("A", 9, 6)}, {row("A", 10, 6)}, {row("A", 20, 4)}, {row("A", 20, 5)}, {row("A", 30, 5)}, {row("A:B", 9, -5)}, {row("A:B", 9, -6)}, {row("B", 25, -1)}, {row("B", 25, 1)}, {row("B", 35, 1)}, {row("B", 40, most)}, {row("B", 20, most)},
		{row("G", 10, -1), row("G", 11, 1)}, {row("G", 10, most)}, {row("G", 9, most)}, {row("G", 12, most)}, {row("N", 1, most)}, {row("N", 2, 1), row("N", 1, most)}, {row("A", 10, -most), row("A", 10, -most)}, {row("A", 10, -most), row("A", 11, -most), row("A", 12, most)},
	} {
		one, two := held(t), &both{t, copyOf(t, x.d.State()), x.m}
		if got, want := two.tell(rows...), one.tell(rows...); got != want {
			t.Errorf("%v: %d, want %d", rows, got, want)
		}
		alike(t, one.d, two.m)
		alike(t, two.d, one.m)
	}
}

// TestP9_7Days: by what is told alone.
func TestP9_7Days(t *testing.T) {
	r := source(3)
	for n := range 200 {
		x := fresh(t)
		for range 10 {
			x.tell(anyRows(r, n%3 > 0)...)
		}
		for _, name := range walkNames {
			days := append(slices.Clone(walkDays), -1, 0, 6, 7, 699, 703, lastDay+1, lastDay+2)
			for _, day := range days {
				step := new(big.Int).Sub(large(x.d.At(name, day)), large(x.d.At(name, day-1)))
				l := x.d.Between(name, day, day)
				if len(l) == 0 && step.Sign() != 0 || len(l) > 0 && (step.Cmp(large(l[0].Change)) != 0 || l[0].Change == 0 || l[0].Balance != x.d.At(name, day) || l[0].Account != name || l[0].Day != day) || len(l) > 1 {
					t.Fatalf("day %d of %s: %v, and At goes on by %d", day, name, l, step)
				}
			}
			days = append(days, least, most-1)
			slices.Sort(days)
			from, between, to := days[r.IntN(6)], days[6+r.IntN(6)], days[12+r.IntN(8)]
			one, two := x.d.Between(name, from, between), x.d.Between(name, between+1, to)
			if got := x.d.Between(name, from, to); !slices.Equal(got, slices.Concat(one, two)) {
				t.Fatalf("%s from %d to %d: %v; by %d: %v, %v", name, from, to, got, between, one, two)
			}
		}
	}
}

// TestP9_8LaterDaysAlone: any rows, one by one, at any view.
func TestP9_8LaterDaysAlone(t *testing.T) {
	r := source(4)
	for n := range 200 {
		x := fresh(t)
		for range 5 {
			x.tell(anyRows(r, n%3 > 0)...)
		}
		before := copyOf(t, x.d.State())
		more := anyRow(r, n%3 > 0)
		if x.tell(more) != api.OK {
			continue
		}
		for _, name := range walkNames {
			for _, day := range append(slices.Clone(walkDays), least, 0, 6, 699, most) {
				want := large(before.At(name, day))
				if name == more.Account && day >= more.Day {
					want.Add(want, large(more.Amount))
				}
				if got := x.d.At(name, day); large(got).Cmp(want) != 0 {
					t.Fatalf("behind %v: At(%s, %d): %d, want %d", more, name, day, got, want)
				}
			}
		}
	}
}

func TestP9_9Back(t *testing.T) {
	r := source(5)
	taken := 0
	for n := range 800 {
		x := fresh(t)
		for range r.IntN(4) {
			x.tell(anyRows(r, n%3 > 0)...)
		}
		before := x.d.State()
		rows := anyRows(r, n%3 > 0)
		if x.tell(rows...) != api.OK {
			continue
		}
		taken++
		x.take(opposite(rows, -1)...)
		wantState(t, x.d, before...)
		alike(t, x.d, x.m)
	}
	if taken < 300 {
		t.Errorf("only %d were taken", taken)
	}
}
