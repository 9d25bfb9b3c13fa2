package sums

import (
	"math/big"
	"math/rand/v2"
	"slices"
	"strings"
	"testing"

	"daybook/api"
)

var walkNames = []string{"A", "A-1", "A-1:B", "A0", "A:A", "A:B", "A:B-1", "A:B:C", "A:B:C:D", "A:B:C:D:E", "A:B:C:D:E:F", "B", "B:C", "C:D:E", longestName}

// anyAmount: of every length, at the bounds too; small makes it one that comes back to 0 often.
func anyAmount(r *rand.Rand, small bool) int64 {
	n := int64(r.IntN(4))
	if !small {
		n = [...]int64{most, most - 1, most/2 + 1, 1, r.Int64() >> r.IntN(63), r.Int64() >> r.IntN(8)}[r.IntN(6)]
	}
	if r.IntN(2) == 0 {
		return -n
	}
	return n
}

func anyRows(r *rand.Rand, small bool) []api.Posting {
	rows := []api.Posting{}
	for range r.IntN(6) {
		rows = append(rows, row(walkNames[r.IntN(len(walkNames))], anyAmount(r, small)))
	}
	if len(rows) > 0 && r.IntN(25) == 0 {
		i := r.IntN(len(rows))
		rows[i] = [...]api.Posting{row("A:b", 1), row("A", least), row("", 0)}[r.IntN(3)]
	}
	return rows
}

// backwards: the same rows with the opposite amounts.
func backwards(rows []api.Posting) []api.Posting {
	rows = slices.Clone(rows)
	for i := range rows {
		rows[i].Amount = -rows[i].Amount
	}
	return rows
}

// brief: a model that tells the same, so that long walks stay quick.
func brief(m model) model {
	l := model{}
	for _, name := range m.holders() {
		l = append(l, row(name, m.own(name).Int64()))
	}
	return l
}

// TestWalks: everything that is told, behind every step, with Sums made anew of the State all the time.
func TestWalks(t *testing.T) {
	met := map[api.Errno]int{}
	for n := range uint64(60) {
		r := source(100 + n)
		x, twin := fresh(t), New()
		small := n%2 == 0
		for range 60 {
			rows := anyRows(r, small)
			if r.IntN(4) == 0 { // what is held goes away, or to the other side
				rows = backwards(x.m)
				if r.IntN(2) == 0 {
					rows = append(rows, rows...)
				}
			}
			e := x.tell(rows...)
			met[e]++
			if got := twin.Apply(rows); got != e {
				t.Fatalf("Apply(%v) of Sums made of a State: %d, want %d", rows, got, e)
			}
			alike(t, x.s, x.m, walkNames...)
			alike(t, twin, x.m, walkNames...)
			x.m = brief(x.m)
			if r.IntN(3) > 0 {
				twin = copyOf(t, x.s.State())
			}
		}
	}
	if met[api.OK] < 500 || met[api.ErrArg] < 50 || met[api.ErrOverflow] < 200 {
		t.Errorf("answers: %v", met)
	}
}

// pieces: a list cut at random into lists.
func pieces(r *rand.Rand, rows []api.Posting) (l [][]api.Posting) {
	for len(rows) > 0 {
		n := 1 + r.IntN(len(rows))
		l = append(l, rows[:n])
		rows = rows[n:]
	}
	return l
}

// TestP8_6Order: in any order and any pieces; where a piece is refused, the order does not count.
func TestP8_6Order(t *testing.T) {
	r := source(2)
	taken := 0
	for n := range 400 {
		rows := []api.Posting{}
		for range 2 + r.IntN(20) {
			rows = append(rows, row(walkNames[r.IntN(len(walkNames))], anyAmount(r, n%4 > 0)))
		}
		first := fresh(t)
		if first.tell(rows...) != api.OK {
			continue
		}
	orders:
		for range 6 {
			r.Shuffle(len(rows), func(i, j int) { rows[i], rows[j] = rows[j], rows[i] })
			s := New()
			for _, piece := range pieces(r, rows) {
				if s.Apply(piece) != api.OK {
					continue orders
				}
				if r.IntN(3) == 0 {
					s = copyOf(t, s.State())
				}
			}
			taken++
			wantState(t, s, first.s.State()...)
			alike(t, s, first.m)
		}
	}
	if taken < 1000 {
		t.Errorf("only %d orders were taken", taken)
	}
}

// TestP8_6GoesOnAlike: Sums of a State take and refuse what those take and refuse that were told the rows.
func TestP8_6GoesOnAlike(t *testing.T) {
	x := held(t)
	for _, rows := range [][]api.Posting{
		{row("A", 1)}, {row("A", 2)}, {row("D", -3)}, {row("D", -4)}, {row("D:E:F", 4)}, {row("N", 1)}, {row("N", 2)}, {row("N", -3)}, {row("N", -4)}, {row("A", -most), row("A", -most)}, {row("A", -most), row("A", -most), row("D", most)}, {row("G", -1), row("G:H", 1)},
	} {
		one, two := held(t), &both{t, copyOf(t, x.s.State()), x.m}
		if got, want := two.tell(rows...), one.tell(rows...); got != want {
			t.Errorf("%v: %d, want %d", rows, got, want)
		}
		alike(t, one.s, two.m)
		alike(t, two.s, one.m)
	}
}

// TestP8_7Tree: by what is told alone.
func TestP8_7Tree(t *testing.T) {
	r := source(3)
	for n := range 300 {
		x := fresh(t)
		for range 8 {
			x.tell(anyRows(r, n%3 > 0)...)
		}
		state := x.s.State()
		roots, all := new(big.Int), new(big.Int)
		for _, b := range state {
			sum := large(b.Own)
			for _, kid := range state {
				if above := beginnings(kid.Account); len(above) > 1 && above[1] == b.Account {
					sum.Add(sum, large(x.s.Rollup(kid.Account)))
				}
			}
			if sum.Cmp(large(x.s.Rollup(b.Account))) != 0 {
				t.Fatalf("%v: the rollup of %s is not %d", state, b.Account, sum)
			}
			if !strings.Contains(b.Account, ":") {
				roots.Add(roots, large(b.Rollup))
			}
		}
		for _, row := range x.m {
			all.Add(all, large(row.Amount))
		}
		debits, credits := x.s.Totals()
		if less := new(big.Int).Sub(large(debits), large(credits)); less.Cmp(roots) != 0 || less.Cmp(all) != 0 {
			t.Fatalf("%v: debits less credits %d, roots %d, rows %d", state, less, roots, all)
		}
	}
}

func TestP8_8Back(t *testing.T) {
	r := source(4)
	for n := range 600 {
		x := fresh(t)
		for range r.IntN(4) {
			x.tell(anyRows(r, n%3 > 0)...)
		}
		before := x.s.State()
		rows := anyRows(r, n%3 > 0)
		if x.tell(rows...) != api.OK {
			continue
		}
		x.take(backwards(rows)...)
		wantState(t, x.s, before...)
		alike(t, x.s, x.m)
	}
}

// TestP8_8Elsewhere: rows on other accounts, on those above it and on those whose names only begin alike, do not change a rollup.
func TestP8_8Elsewhere(t *testing.T) {
	for _, at := range walkNames {
		x := fresh(t)
		for i, name := range walkNames {
			x.take(row(name, int64(i+1)))
		}
		before := x.s.Rollup(at)
		for _, name := range append([]string{"A:B1", "A1", "AB", "B-", "C", "A:B:D", "Zz"}, walkNames...) {
			if name != at && !strings.HasPrefix(name, at+":") {
				x.take(row(name, 1000))
			}
		}
		if got := x.s.Rollup(at); got != before {
			t.Errorf("Rollup(%s): %d, want %d", at, got, before)
		}
		x.take(row(at, 1))
		if got := x.s.Rollup(at); got != before+1 {
			t.Errorf("Rollup(%s): %d, want %d", at, got, before+1)
		}
	}
}

// TestP8_9Trial: by what State tells alone.
func TestP8_9Trial(t *testing.T) {
	r := source(5)
	for n := range 500 {
		x := fresh(t)
		for range 6 {
			x.tell(anyRows(r, n%3 > 0)...)
		}
		var want []api.Column
		var debits, credits int64
		for _, b := range x.s.State() {
			if b.Own > 0 {
				want = append(want, debit(b.Account, b.Own))
				debits += b.Own
			}
			if b.Own < 0 {
				want = append(want, credit(b.Account, -b.Own))
				credits -= b.Own
			}
		}
		if got := x.s.Trial(); !slices.Equal(got, want) {
			t.Fatalf("Trial: %v, want %v", got, want)
		}
		if d, c := x.s.Totals(); d != debits || c != credits {
			t.Fatalf("Totals: %d, %d, want %d, %d", d, c, debits, credits)
		}
	}
}
