package answer

import (
	"math/rand/v2"
	"slices"
	"testing"

	"daybook/api"
	"daybook/rebuild"
)

// spare: the query with room behind its lists that holds something.
func spare(q api.Query) api.Query {
	q.Nodes = append(slices.Clip(q.Nodes), num(7), truth(1))[:len(q.Nodes)]
	q.By = append(slices.Clip(q.By), 7, 8)[:len(q.By)]
	q.Show = append(slices.Clip(q.Show), api.Agg{Kind: 1}, api.Agg{Kind: 8})[:len(q.Show)]
	q.Orders = append(slices.Clip(q.Orders), api.Order{Column: 7}, api.Order{Column: 8})[:len(q.Orders)]
	return q
}

// full: the lists with the room behind them.
func full(q api.Query) api.Query {
	q.Nodes, q.By, q.Show, q.Orders = q.Nodes[:cap(q.Nodes)], q.By[:cap(q.By)], q.Show[:cap(q.Show)], q.Orders[:cap(q.Orders)]
	return q
}

// scratch: everything that a table's lists hold, their spare room too, is overwritten.
func scratch(table api.Table) {
	for i := range table.Types[:cap(table.Types)] {
		table.Types[:cap(table.Types)][i] = -7
	}
	for _, row := range table.Rows[:cap(table.Rows)] {
		for i := range row[:cap(row)] {
			row[:cap(row)][i] = api.Cell{Type: -7, Num: -7, Text: "scratched"}
		}
	}
	clear(table.Rows[:cap(table.Rows)])
}

// deep: the table in memory of its own.
func deep(table api.Table) api.Table {
	l := api.Table{Types: slices.Clone(table.Types)}
	for _, row := range table.Rows {
		l.Rows = append(l.Rows, slices.Clone(row))
	}
	return l
}

// apart: no list of a table shares memory with another one of it.
func apart(t *testing.T, table api.Table) {
	t.Helper()
	want := deep(table)
	for i, row := range table.Rows {
		for j := range row[:cap(row)] {
			row[:cap(row)][j] = api.Cell{Type: -i}
		}
		if len(row) > 0 {
			copy(row, want.Rows[i])
		}
		if !alike(table, want) {
			t.Fatalf("row %d shares memory with another one: %+v", i, want)
		}
	}
}

// What is handed in stays as it is, the spare room of its lists too, and does not count; answers are nobody else's.
func TestP15_1Memory(t *testing.T) {
	walk(t, 20, func(r *rand.Rand, q api.Query, rows []api.Posting) {
		q = spare(q)
		rows = append(slices.Clip(rows), api.Posting{Amount: least}, api.Posting{Seq: 9})[:len(rows)]
		before, rowsBefore := copied(full(q)), slices.Clone(rows[:cap(rows)])
		want, wantWhy := plainScan(q, rows)
		one, why := Scan(q, rows)
		two, twoWhy := Scan(q, rows)
		if why != wantWhy || twoWhy != wantWhy || !alike(one, want) || !alike(two, want) {
			t.Fatalf("%+v: %+v, %+v; want %+v", q, one, two, want)
		}
		if !same(full(q), before) || !slices.Equal(rows[:cap(rows)], rowsBefore) {
			t.Fatalf("%+v over %+v was changed", before, rowsBefore)
		}
		apart(t, one)
		scratch(one)
		if !alike(two, want) || !same(full(q), before) || !slices.Equal(rows[:cap(rows)], rowsBefore) {
			t.Fatalf("answers of %+v share memory", q)
		}
		clear(q.Nodes)
		clear(q.By)
		clear(q.Show)
		clear(q.Orders)
		clear(rows)
		if !alike(two, want) {
			t.Fatalf("the answer is made of what was handed in: %+v", before)
		}
	})
}

// asks: Ask, and Quick, if it answers.
func asks(q api.Query, s *rebuild.Set) []api.Table {
	one, _ := Ask(q, s)
	two, _, _ := Quick(q, s)
	return []api.Table{one, two}
}

// A set that is asked stays as it is, whatever is done with the answers.
func TestP15_3Memory(t *testing.T) {
	r := source(21)
	s := behind(t, story())
	snap := s.Snap()
	for range 400 {
		q := spare(pick(r, anyBareSum(r), anyQuery(r)))
		before := copied(full(q))
		one, two := asks(q, s), asks(q, s)
		for i := range one {
			want := deep(two[i])
			apart(t, one[i])
			scratch(one[i])
			if !alike(two[i], want) || !same(full(q), before) {
				t.Fatalf("answers of %+v share memory", q)
			}
			clear(q.Nodes)
			clear(q.Show)
			if !alike(two[i], want) {
				t.Fatalf("the answer is made of what was handed in: %+v", before)
			}
			copy(q.Nodes, before.Nodes)
			copy(q.Show, before.Show)
		}
		if !same(s.Snap(), snap) {
			t.Fatalf("%+v changed the set", q)
		}
	}
}

// Two sets know nothing of one another, and nothing is kept from one call to the next.
func TestP15_3TwoSets(t *testing.T) {
	r := source(22)
	one, two := behind(t, story()), moves(t)
	for range 200 {
		q := pick(r, anyBareSum(r), anyQuery(r))
		a, aWhy := asked(t, q, one)
		asked(t, q, two)
		if b, why := asked(t, q, one); why != aWhy || !alike(a, b) {
			t.Fatalf("%s: %+v, then %+v", told(q), a, b)
		}
	}
}
