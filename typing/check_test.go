package typing

import (
	"math"
	"slices"
	"testing"

	"daybook/api"
)

// oneOfEach: a node of each type, at the place of its type's number less 1.
func oneOfEach() []api.Node {
	var nodes []api.Node
	for valueType := 1; valueType <= 5; valueType++ {
		nodes = append(nodes, leaves()[valueType][0])
	}
	return nodes
}

func TestP14_2Where(t *testing.T) {
	q := counting(oneOfEach()...)
	for _, where := range []int{math.MinInt, math.MinInt + 1, -1 << 32, -6, -5, -3, -2, 0, 1, 2, 4, 5, 6, 1 << 32, 1<<32 + 3, math.MaxInt} {
		q.Where = where
		fails(t, q)
	}
	for _, where := range []int{-1, 3} {
		q.Where = where
		means(t, q, api.TNum)
	}
	q = counting()
	means(t, q, api.TNum)
	for _, where := range []int{-2, 0, 1, math.MaxInt, math.MinInt} {
		q.Where = where
		fails(t, q)
	}
	// Each place that is true or false, not the last one alone.
	q = counting(truth(0), num(1), of(api.QNot, 0), num(2), between(api.QLt, 1, 3), num(3))
	for where, good := range []bool{true, false, true, false, true, false, false} {
		if q.Where = where; good {
			means(t, q, api.TNum)
		} else {
			fails(t, q)
		}
	}
}

func TestP14_2By(t *testing.T) {
	q := counting()
	for f := 1; f <= 14; f++ {
		q.By = []int{f}
		means(t, q, plainFieldType(f), api.TNum)
		q.By = []int{f, f, f}
		means(t, q, plainFieldType(f), plainFieldType(f), plainFieldType(f), api.TNum)
	}
	for _, f := range []int{0, 15, -1, -14, 16, 1 << 32, 1<<32 + 1, math.MinInt, math.MinInt + 1, math.MaxInt} {
		for _, by := range [][]int{{f}, {f, 1}, {1, f}, {14, f, 1}, {f, f}} {
			q.By = by
			fails(t, q)
		}
	}
	for _, none := range [][]int{nil, {}} {
		q.By = none
		means(t, q, api.TNum)
	}
	q.By = slices.Repeat([]int{14, 3, 7, 1}, 5000)
	means(t, q, append(slices.Repeat([]int{api.TText, api.TDay, api.TMoney, api.TNum}, 5000), api.TNum)...)
}

// Each Kind of a node of each type.
func TestP14_2Show(t *testing.T) {
	q := counting(oneOfEach()...)
	good := map[int][]int{api.ASum: {1, 5}, api.AMin: {1, 2, 3, 5}, api.AMax: {1, 2, 3, 5}}
	for kind, l := range good {
		for valueType := 1; valueType <= 5; valueType++ {
			shown := []api.Agg{{Kind: kind, Of: valueType - 1}}
			for _, show := range [][]api.Agg{shown, append(shown, api.Agg{Kind: api.ACount}), append([]api.Agg{{Kind: api.ACount}}, shown...)} {
				q.Show = show
				if !slices.Contains(l, valueType) {
					fails(t, q)
					continue
				}
				want := slices.Repeat([]int{api.TNum}, len(show))
				want[slices.Index(show, shown[0])] = valueType
				means(t, q, want...)
			}
		}
		for _, of := range []int{math.MinInt, -1 << 32, -5, -2, -1, 5, 6, 1 << 32, math.MaxInt} {
			q.Show = []api.Agg{{Kind: kind, Of: of}}
			fails(t, q)
		}
	}
	for of := -2; of <= 6; of++ {
		for _, kind := range []int{0, 5, 6, -1, -2, 1 << 32, 1<<32 + 1, math.MinInt, math.MinInt + 1, math.MaxInt} {
			q.Show = []api.Agg{{Kind: kind, Of: of}}
			fails(t, q)
		}
	}
}

func TestP14_2Counts(t *testing.T) {
	for _, nodes := range [][]api.Node{nil, oneOfEach()} {
		q := counting(nodes...)
		for _, of := range append([]int{2, 3, 4, 5, 6}, ends...) {
			q.Show = []api.Agg{{Kind: api.ACount, Of: of}}
			means(t, q, api.TNum)
			q.Show = []api.Agg{{Kind: api.ACount, Of: of}, {Kind: api.ACount, Of: of}}
			means(t, q, api.TNum, api.TNum)
		}
	}
}

func TestP14_2ShowEmpty(t *testing.T) {
	for _, none := range [][]api.Agg{nil, {}} {
		q := counting(oneOfEach()...)
		q.Show = none
		fails(t, q)
		q.By = []int{1}
		fails(t, q)
		q.Orders = []api.Order{{Column: 0}}
		fails(t, q)
		q.Nodes, q.Where = nil, -1
		fails(t, q)
		fails(t, api.Query{Show: none})
	}
}

func TestP14_2Orders(t *testing.T) {
	for by := range 4 {
		for show := 1; show < 4; show++ {
			q := counting()
			q.By = slices.Repeat([]int{api.FDay}, by)
			q.Show = slices.Repeat([]api.Agg{{Kind: api.ACount}}, show)
			want := append(slices.Repeat([]int{api.TDay}, by), slices.Repeat([]int{api.TNum}, show)...)
			for _, column := range []int{math.MinInt, -1 << 32, -2, -1, 0, 1, 2, 3, 4, 5, 6, 7, 99, 1 << 32, math.MaxInt} {
				for _, desc := range []bool{false, true} {
					o := api.Order{Column: column, Desc: desc}
					for _, orders := range [][]api.Order{{o}, {o, o}, {{Column: 0}, o}, {o, {Column: by + show - 1}}} {
						if q.Orders = orders; column >= 0 && column <= by+show-1 {
							means(t, q, want...)
						} else {
							fails(t, q)
						}
					}
				}
			}
		}
	}
}

func TestP14_2Limit(t *testing.T) {
	q := counting()
	for _, limit := range []int{-1, 0, 1, 7, 999999999, 1000000000, 1 << 32, math.MaxInt - 1, math.MaxInt} {
		q.Limit = limit
		means(t, q, api.TNum)
	}
	for _, limit := range []int{-2, -3, -1 << 32, math.MinInt, math.MinInt + 1} {
		q.Limit = limit
		fails(t, q)
	}
}

// Each of the six points is enough, and several are no more.
func TestP14_2EachPoint(t *testing.T) {
	spoil := []func(q *api.Query){
		func(q *api.Query) { q.Nodes = append(q.Nodes, api.Node{}) },
		func(q *api.Query) { q.Where = -2 },
		func(q *api.Query) { q.By = append(q.By, 0) },
		func(q *api.Query) { q.Show = append(q.Show, api.Agg{}) },
		func(q *api.Query) { q.Orders = append(q.Orders, api.Order{Column: -1}) },
		func(q *api.Query) { q.Limit = -2 },
	}
	for set := range 1 << len(spoil) {
		q := counting(oneOfEach()...)
		q.Where, q.By, q.Orders = 3, []int{1}, []api.Order{{Column: 1}}
		for i, f := range spoil {
			if set>>i&1 == 1 {
				f(&q)
			}
		}
		if set == 0 {
			means(t, q, api.TNum, api.TNum)
		} else {
			fails(t, q)
		}
	}
}

// The columns: By's and then Show's, whatever Orders and Limit are.
func TestP14_2Columns(t *testing.T) {
	q := counting(oneOfEach()...)
	q.By = []int{api.FMemo, api.FAmount, api.FYear, api.FDay, api.FMemo}
	q.Show = []api.Agg{{Kind: api.AMax, Of: 2}, {Kind: api.ACount, Of: 2}, {Kind: api.ASum, Of: 4}, {Kind: api.AMin, Of: 1}, {Kind: api.ASum, Of: 0}, {Kind: api.AMax, Of: 2}}
	q.Orders, q.Limit = []api.Order{{Column: 10, Desc: true}, {Column: 0}}, 0
	means(t, q, api.TText, api.TMoney, api.TNum, api.TDay, api.TText, api.TDay, api.TNum, api.TMoney, api.TText, api.TNum, api.TDay)
}

// The zero query shows nothing.
func TestP14_2Zero(t *testing.T) {
	fails(t, api.Query{})
	fails(t, api.Query{Where: -1, Limit: -1})
}
