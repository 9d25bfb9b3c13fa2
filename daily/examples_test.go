package daily

import (
	"slices"
	"testing"

	"daybook/api"
)

func TestExamples1To3(t *testing.T) {
	x := fresh(t)
	x.take(row("A", 5, 100), row("A", 9, -30), row("B", 5, 7), row("A", 5, 1))
	wantState(t, x.d, dr("A", 5, 101, 101), dr("A", 9, -30, 71), dr("B", 5, 7, 7))
	for _, ask := range []struct {
		account string
		day     int
		want    int64
	}{{"A", 4, 0}, {"A", 5, 101}, {"A", 8, 101}, {"A", 9, 71}, {"A", most, 71}, {"A", -3, 0}, {"C", 9, 0}, {"a", 9, 0}} {
		if got := x.d.At(ask.account, ask.day); got != ask.want {
			t.Errorf("At(%s, %d): %d, want %d", ask.account, ask.day, got, ask.want)
		}
	}
	x.take(row("A", 7, 10))
	all := []api.DayRow{dr("A", 5, 101, 101), dr("A", 7, 10, 111), dr("A", 9, -30, 81)}
	wantState(t, x.d, append(slices.Clone(all), dr("B", 5, 7, 7))...)
	for _, ask := range []struct {
		from, to int
		want     []api.DayRow
	}{{6, 9, all[1:]}, {9, 6, nil}, {least, most, all}} {
		if got := x.d.Between("A", ask.from, ask.to); !slices.Equal(got, ask.want) {
			t.Errorf("Between(A, %d, %d): %v, want %v", ask.from, ask.to, got, ask.want)
		}
	}
	x.take(row("A", 7, -10))
	wantState(t, x.d, dr("A", 5, 101, 101), dr("A", 9, -30, 71), dr("B", 5, 7, 7))
	alike(t, x.d, x.m)
}

func TestExample4(t *testing.T) {
	x := fresh(t)
	back := []api.Posting{row("A", 5, 1), row("A", 5, -1)}
	x.take(back...)
	x.take(row("A", 5, most))
	x.take(back...)
	x.refused(api.ErrOverflow, row("A", 4, 1))
	x.take(row("A", 6, -most))
	x.refused(api.ErrOverflow, row("A", 6, -1))
	x.take(back...)
	wantState(t, x.d, dr("A", 5, most, most), dr("A", 6, -most, 0))
}

func TestExample5(t *testing.T) {
	x := fresh(t)
	for _, r := range []api.Posting{row("A", 0, 1), row("A:b", 5, 1), row("A", 5, least)} {
		x.refused(api.ErrArg, r)
	}
}

func TestExample6(t *testing.T) {
	for _, l := range [][]api.DayRow{
		{dr("A", 5, 101, 101), dr("A", 9, -30, 70)}, {dr("A", 5, 0, 0)}, {dr("A", 9, 1, 1), dr("A", 5, 1, 2)}, {dr("B", 1, 1, 1), dr("A", 1, 1, 1)}, {dr("A", 0, 1, 1)},
	} {
		if d, e := From(l); d != nil || e != api.ErrView {
			t.Errorf("From(%v): %v, %d", l, d, e)
		}
	}
}
