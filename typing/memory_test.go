package typing

import (
	"math/rand/v2"
	"reflect"
	"slices"
	"testing"

	"daybook/api"
)

// spare: the query with room behind its lists that holds something.
func spare(q api.Query) api.Query {
	q.Nodes = append(slices.Clip(q.Nodes), num(7), truth(1))[:len(q.Nodes)]
	q.By = append(slices.Clip(q.By), 7, 8)[:len(q.By)]
	q.Show = append(slices.Clip(q.Show), api.Agg{Kind: 1}, api.Agg{Kind: 8})[:len(q.Show)]
	q.Orders = append(slices.Clip(q.Orders), api.Order{Column: 7}, api.Order{Column: 8})[:len(q.Orders)]
	return q
}

// full: the lists with the room behind them.
func full(q api.Query) api.Query {
	q.Nodes, q.By, q.Show, q.Orders = q.Nodes[:cap(q.Nodes)], q.By[:cap(q.By)], q.Show[:cap(q.Show)], q.Orders[:cap(q.Orders)]
	return q
}

// What is handed in stays as it is, its lists' spare room too; and it does not count.
func TestP14_2QueriesAreNotChanged(t *testing.T) {
	walk(t, 20, func(r *rand.Rand, q api.Query) {
		q = spare(q)
		before := copied(full(q))
		checksAsPlain(t, q)
		plansAsPlain(t, q)
		if !reflect.DeepEqual(full(q), before) {
			t.Fatalf("%+v was changed to %+v", before, full(q))
		}
	})
	r := source(21)
	for range 300 {
		q := spare(anyCondition(r))
		before := copied(full(q))
		plansAsPlain(t, q)
		if !reflect.DeepEqual(full(q), before) {
			t.Fatalf("%+v was changed to %+v", before, full(q))
		}
	}
}

// An answer is nobody else's: not the query's, not another answer's, its spare room neither.
func TestP14_2AnswersAreNobodyElses(t *testing.T) {
	r := source(22)
	for range 500 {
		q := anyMeaning(r)
		one, _ := Check(q)
		two, _ := Check(q)
		want := slices.Clone(two)
		before := copied(q)
		for i := range one[:cap(one)] {
			one[:cap(one)][i] = -7
		}
		if !slices.Equal(two, want) || !reflect.DeepEqual(q, before) {
			t.Fatalf("answers of %+v share memory", q)
		}
		checksAsPlain(t, q)
		clear(q.By)
		clear(q.Nodes)
		clear(q.Show)
		if !slices.Equal(two, want) {
			t.Fatalf("the answer is made of what was handed in: %+v", before)
		}
	}
}

// Fields are as they were, whatever was asked between.
func TestP14_1KeepsNothing(t *testing.T) {
	before := [15]string{}
	for f := range before {
		before[f], _ = Field(f)
	}
	walk(t, 23, func(r *rand.Rand, q api.Query) {
		Check(q)
		Plan(q)
	})
	for f, name := range before {
		if got, _ := Field(f); got != name {
			t.Errorf("Field(%d): %q, then %q", f, name, got)
		}
	}
}
