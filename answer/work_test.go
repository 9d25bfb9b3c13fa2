package answer

import (
	"slices"
	"strconv"
	"testing"

	"daybook/api"
)

// doubled: n, and each node behind it the sum of the one ahead of it with itself.
func doubled(n int64, times int) []api.Node {
	nodes := leaf(num(n))
	for place := range times {
		nodes = append(nodes, pair(api.QAdd, place, place))
	}
	return nodes
}

// found: Scan's rows. The model would take too long here.
func found(t *testing.T, q api.Query, rows []api.Posting) [][]api.Cell {
	t.Helper()
	got, why := Scan(q, rows)
	if why != api.OK {
		t.Fatalf("%d", int(why))
	}
	return got.Rows
}

// A node that very many name is worth the same everywhere, and is looked at once.
func TestP15_1NamedByMany(t *testing.T) {
	for _, kind := range []int{api.ASum, api.AMin, api.AMax} {
		if got := found(t, showing(doubled(1, 62), kind, 62), few()[:1]); got[0][0] != number(1<<62) {
			t.Errorf("%+v", got)
		}
		if got := found(t, showing(doubled(0, 20000), kind, 20000), few()); got[0][0] != number(0) {
			t.Errorf("%+v", got)
		}
	}
	if got, why := Scan(showing(doubled(1, 63), api.AMax, 63), few()[:1]); why != api.ErrOverflow || !isZero(got) {
		t.Errorf("%+v, %d", got, int(why))
	}
	if got := found(t, showing(doubled(-1, 62), api.AMin, 62), few()[:1]); got[0][0] != number(-1<<62) {
		t.Errorf("%+v", got)
	}
	// Truths: each And, Or, = of the one ahead of it with itself.
	for _, op := range []int{api.QAnd, api.QOr, api.QEq} {
		for truthOf := range int64(2) {
			nodes := leaf(truth(truthOf))
			for place := range 20000 {
				nodes = append(nodes, pair(op, place, place))
			}
			want := truthOf * 4
			if op == api.QEq {
				want = 4
			}
			if got := found(t, counting(nodes), few()); got[0][0] != number(want) {
				t.Errorf("%d: %+v", op, got)
			}
		}
	}
}

// Nodes nested as deep as they go.
func TestP15_1Deep(t *testing.T) {
	const deep = 1<<16 - 1
	nots, signs, sums, days := leaf(truth(1)), leaf(num(greatest)), []api.Node{num(1), num(0)}, []api.Node{num(1), dayOf(1)}
	for place := range deep {
		nots = append(nots, of(api.QNot, place))
		signs = append(signs, of(api.QNeg, place))
		sums = append(sums, pair(api.QAdd, place+1, 0))
		days = append(days, pair(api.QAdd, 0, place+1))
	}
	if got := found(t, counting(nots), few()); got[0][0] != number(0) {
		t.Errorf("%+v", got)
	}
	if got := found(t, showing(signs, api.AMax, deep), few()); got[0][0] != number(-greatest) {
		t.Errorf("%+v", got)
	}
	if got := found(t, showing(sums, api.AMax, deep+1), few()); got[0][0] != number(deep) {
		t.Errorf("%+v", got)
	}
	if got := found(t, showing(days, api.AMin, deep+1), few()); got[0][0] != date(deep+1) {
		t.Errorf("%+v", got)
	}
	// Over at the bottom, all the way up.
	signs[0] = num(least)
	if got, why := Scan(showing(signs, api.AMax, deep), few()); why != api.ErrOverflow || !isZero(got) {
		t.Errorf("%+v, %d", got, int(why))
	}
}

// One aggregate named by very many columns, one field by very many of By, one column by very many of Orders.
func TestP15_1NamedAgain(t *testing.T) {
	const many = 20000
	var rows []api.Posting
	for i := range 3000 {
		rows = append(rows, api.Posting{Day: d, Key: strconv.Itoa(i), Amount: int64(i)})
	}
	q := read(t, "by day, key show count, sum(amount) order 4 desc limit 2")
	q.By = append(slices.Repeat([]int{api.FDay}, many), api.FKey)
	q.Show = slices.Repeat(q.Show, many/2)
	q.Orders = append(slices.Repeat([]api.Order{{Column: 7, Desc: true}, {Column: many + 1}}, many), api.Order{Column: many + 2, Desc: true})
	got := found(t, q, rows)
	if len(got) != 2 || len(got[0]) != 2*many+1 || got[0][many] != text("2999") || got[1][many] != text("2998") || got[1][2*many] != cash(2998) {
		t.Errorf("%d rows", len(got))
	}
}

// Many rows, many groups.
func TestP15_1ManyRows(t *testing.T) {
	var rows []api.Posting
	for i := range 30000 {
		rows = append(rows, api.Posting{Seq: i, Day: 1 + i%5000, Account: "A" + strconv.Itoa(i%7), Amount: int64(i % 3)})
	}
	if got := found(t, read(t, "where amount > 0 by account, day show count, sum(amount), max(seq) order 3, 1"), rows); len(got) != 20000 {
		t.Errorf("%d rows", len(got))
	}
	got := found(t, read(t, "by seq show sum(amount), count"), rows)
	for i, row := range got {
		if !slices.Equal(row, line(number(int64(i)), cash(int64(i%3)), number(1))) {
			t.Fatalf("row %d: %+v", i, row)
		}
	}
	if len(got) != len(rows) {
		t.Errorf("%d rows", len(got))
	}
	if got := found(t, read(t, "show count, sum(amount), max(seq), min(day)"), rows); !slices.Equal(got[0], line(number(30000), cash(30000), number(29999), date(1))) {
		t.Errorf("%+v", got)
	}
}
