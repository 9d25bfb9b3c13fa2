package grammar

import (
	"slices"
	"testing"

	"daybook/api"
)

// What is handed in stays as it is, its lists' spare room too.
func TestP13_2QueriesAreNotChanged(t *testing.T) {
	r := source(10)
	for i := range 200 {
		q := anyWhole(r, 6).query()
		if i%4 == 0 && len(q.Nodes) > 0 {
			q.Nodes[len(q.Nodes)-1].Left += i%3 - 1
		}
		spare(&q)
		before := copied(q)
		full := copied(q)
		full.Nodes, full.By, full.Show, full.Orders = slices.Clone(q.Nodes[:cap(q.Nodes)]), slices.Clone(q.By[:cap(q.By)]), slices.Clone(q.Show[:cap(q.Show)]), slices.Clone(q.Orders[:cap(q.Orders)])
		s, why := Print(q)
		if !same(q, before) || !slices.Equal(q.Nodes[:cap(q.Nodes)], full.Nodes) || !slices.Equal(q.By[:cap(q.By)], full.By) || !slices.Equal(q.Show[:cap(q.Show)], full.Show) || !slices.Equal(q.Orders[:cap(q.Orders)], full.Orders) {
			t.Fatalf("%+v was changed to %+v", before, q)
		}
		want, wantWhy := plainPrint(t, before)
		clear(q.Nodes)
		clear(q.By)
		clear(q.Show)
		clear(q.Orders)
		if s != want || why != wantWhy {
			t.Fatalf("%q, %d; want %q, %d", s, int(why), want, int(wantWhy))
		}
	}
}

// spare: lists with room behind them that holds something.
func spare(q *api.Query) {
	q.Nodes = append(slices.Clip(q.Nodes), num(7), num(8))[:len(q.Nodes)]
	q.By = append(slices.Clip(q.By), 7, 8)[:len(q.By)]
	q.Show = append(slices.Clip(q.Show), api.Agg{Kind: 7}, api.Agg{Kind: 8})[:len(q.Show)]
	q.Orders = append(slices.Clip(q.Orders), api.Order{Column: 7}, api.Order{Column: 8})[:len(q.Orders)]
}

// Two answers share nothing, their spare room neither.
func TestP13_1AnswersAreNobodyElses(t *testing.T) {
	for _, s := range samples() {
		one, _, _ := Parse(s)
		two, _, _ := Parse(s)
		want := plainWhole(s).query()
		clear(one.Nodes[:cap(one.Nodes)])
		clear(one.By[:cap(one.By)])
		clear(one.Show[:cap(one.Show)])
		clear(one.Orders[:cap(one.Orders)])
		if !same(two, want) {
			t.Fatalf("two answers of Parse(%q) share memory: %+v", s, two)
		}
		parses(t, s, want)
	}
}
