package typing

import (
	"math"
	"math/rand/v2"
	"slices"
	"testing"

	"daybook/api"
)

// walk: queries, of which most mean something, and each of them spoilt.
func walk(t *testing.T, seed uint64, one func(r *rand.Rand, q api.Query)) {
	t.Helper()
	r := source(seed)
	count := map[bool]int{}
	for range 4000 {
		q := anyMeaning(r)
		for range 1 + r.IntN(2) {
			_, good := plainCheck(q)
			count[good]++
			one(r, q)
			q = spoilt(r, q)
		}
	}
	if count[true] < 3000 || count[false] < 500 {
		t.Errorf("%v", count)
	}
}

// alike: Check answers of both queries the same.
func alike(t *testing.T, what string, q, other api.Query) {
	t.Helper()
	one, oneWhy := Check(q)
	two, twoWhy := Check(other)
	if oneWhy != twoWhy || !slices.Equal(one, two) {
		t.Fatalf("%s: %+v: %v, %d; %+v: %v, %d", what, q, one, int(oneWhy), other, two, int(twoWhy))
	}
}

// Queries of all kinds are answered as the model answers them, again and again.
func TestP14_2AsModel(t *testing.T) {
	walk(t, 1, func(r *rand.Rand, q api.Query) {
		checksAsPlain(t, q)
		checksAsPlain(t, q)
	})
}

// Nothing but numbers that happen to stand there.
func TestP14_2Anything(t *testing.T) {
	r := source(2)
	count := map[bool]int{}
	for range 30000 {
		some := func() int { return pick(r, r.IntN(24)-2, r.IntN(4), r.IntN(4), -1, pick(r, ends...)) }
		q := api.Query{Where: pick(r, -1, some()), Limit: pick(r, -1, some())}
		for range r.IntN(4) {
			q.Nodes = append(q.Nodes, api.Node{Op: pick(r, 16+r.IntN(5), some()), Left: some(), Right: some(), Field: 1 + r.IntN(16), Num: int64(some()), Text: "x"})
		}
		for range r.IntN(3) {
			q.By = append(q.By, some())
		}
		for range r.IntN(4) {
			q.Show = append(q.Show, api.Agg{Kind: pick(r, 1, r.IntN(6)), Of: some()})
		}
		for range r.IntN(2) {
			q.Orders = append(q.Orders, api.Order{Column: some()})
		}
		_, good := checksAsPlain(t, q)
		count[good]++
		plansAsPlain(t, q)
	}
	if count[true] < 100 || count[false] < 1000 {
		t.Errorf("%v", count)
	}
}

// anyCondition: a bare sum whose condition is mostly made of what daily balances know.
func anyCondition(r *rand.Rand) api.Query {
	texts := []api.Node{said("A"), said("x y"), said("")}
	nodes := []api.Node{pick(r, texts...), dayOf(1 + r.Int64N(3652059)), fieldOf(pick(r, 6, 6, 6, 6, 6, 5)), fieldOf(api.FDay), fieldOf(api.FAmount), truth(1)}
	var relations []int
	add := func(n api.Node) {
		relations = append(relations, len(nodes))
		nodes = append(nodes, filled(r, n))
	}
	for range 2 + r.IntN(2) {
		switch r.IntN(12) {
		case 0:
			add(between(pick(r, api.QUnder, api.QHas, api.QNe), 2, 0))
		case 1:
			add(between(pick(r, api.QNe, api.QEq, api.QOr), 5, 5))
		case 2, 3, 4, 5:
			add(between(api.QEq, 2, 0))
		default:
			add(between(pick(r, api.QEq, api.QLt, api.QLe, api.QGt, api.QGe), 3, 1))
		}
	}
	for range r.IntN(6) {
		add(between(api.QAnd, pick(r, relations...), pick(r, relations...)))
	}
	q := api.Query{Nodes: nodes, Where: pick(r, pick(r, relations...), len(nodes)-1), Show: []api.Agg{{Kind: api.ASum, Of: 4}}, Limit: -1}
	if r.IntN(8) == 0 {
		q.Where = -1
	}
	return q
}

func TestP14_3AsModel(t *testing.T) {
	walk(t, 3, func(r *rand.Rand, q api.Query) { plansAsPlain(t, q) })
	r := source(4)
	count := map[int]int{}
	for range 20000 {
		q := anyCondition(r)
		count[plansAsPlain(t, q)]++
		if r.IntN(3) == 0 {
			plansAsPlain(t, spoilt(r, q))
		}
	}
	if count[ByScan] < 1000 || count[BySums] < 1000 || count[ByDaily] < 1000 {
		t.Errorf("%v", count)
	}
}

// Another number, text, day, field of the same type in its place.
func TestP14_4Parts(t *testing.T) {
	walk(t, 5, func(r *rand.Rand, q api.Query) {
		other := copied(q)
		for i := range other.Nodes {
			n := &other.Nodes[i]
			switch n.Op {
			case api.QNum:
				n.Num = pick(r, 0, -1, math.MinInt64, math.MaxInt64, r.Int64())
			case api.QText:
				n.Text = pick(r, "", "Assets", "day", "\x00\n\xff", "'")
			case api.QDay:
				if n.Num >= 1 && n.Num <= 3652059 {
					n.Num = pick(r, 1, 3652059, 1+r.Int64N(3652059))
				}
			case api.QField:
				if same := sameType(n.Field); len(same) > 0 {
					n.Field = pick(r, same...)
				}
			}
		}
		alike(t, "other parts", q, other)
	})
}

// sameType: the fields of the type of a field.
func sameType(f int) (l []int) {
	for other := 1; other <= 14; other++ {
		if f >= 1 && f <= 14 && plainFieldType(other) == plainFieldType(f) {
			l = append(l, other)
		}
	}
	return l
}

// turnedRound: the Op of which the parts may change places for this one.
var turnedRound = map[int]int{
	api.QEq: api.QEq, api.QNe: api.QNe, api.QOr: api.QOr, api.QAnd: api.QAnd, api.QAdd: api.QAdd, api.QMul: api.QMul,
	api.QLt: api.QGt, api.QGt: api.QLt, api.QLe: api.QGe, api.QGe: api.QLe,
}

func TestP14_5TurnedRound(t *testing.T) {
	turned := 0
	walk(t, 6, func(r *rand.Rand, q api.Query) {
		all := copied(q)
		for i, n := range q.Nodes {
			op, is := turnedRound[n.Op]
			if !is {
				continue
			}
			other := copied(q)
			other.Nodes[i].Op, other.Nodes[i].Left, other.Nodes[i].Right = op, n.Right, n.Left
			all.Nodes[i] = other.Nodes[i]
			alike(t, "one turned round", q, other)
			turned++
		}
		alike(t, "all turned round", q, all)
	})
	if turned < 5000 {
		t.Error(turned)
	}
	for left := 1; left <= 5; left++ {
		for right := 1; right <= 5; right++ {
			one, other := leaves()[left][0], leaves()[right][0]
			for op, round := range turnedRound {
				nodes, back := []api.Node{one, other, between(op, 0, 1)}, []api.Node{one, other, between(round, 1, 0)}
				if lastType(t, nodes) != lastType(t, back) {
					t.Errorf("%+v and %+v differ", nodes, back)
				}
			}
		}
	}
	// The others may not.
	if lastType(t, []api.Node{dayOf(1), num(1), between(api.QSub, 1, 0)}) != 0 {
		t.Error("a number less a day has no type")
	}
}

// goesOn: what means something does so still, with these types; what does not is answered as the model answers it.
func goesOn(t *testing.T, what string, q, other api.Query, want []int) {
	t.Helper()
	if _, good := plainCheck(q); !good {
		checksAsPlain(t, other)
		return
	}
	if got, why := Check(other); why != api.OK || !slices.Equal(got, want) {
		t.Fatalf("%s: %+v: %v, %d; want %v", what, other, got, int(why), want)
	}
}

func TestP14_6More(t *testing.T) {
	walk(t, 7, func(r *rand.Rand, q api.Query) {
		types, _ := plainCheck(q)
		for _, limit := range []int{-1, 0, 1, 12, 1 << 40, math.MaxInt} {
			other := copied(q)
			other.Limit = limit
			goesOn(t, "another limit", q, other, types)
		}
		other := copied(q)
		other.Orders = nil
		goesOn(t, "without orders", q, other, types)
		other = copied(q)
		other.Where = -1
		goesOn(t, "without a condition", q, other, types)
		conditions(t, q, types)
	})
}

// conditions: a not round the condition, and an and of it with itself.
func conditions(t *testing.T, q api.Query, types []int) {
	t.Helper()
	if q.Where == -1 {
		return
	}
	for _, n := range []api.Node{of(api.QNot, q.Where), between(api.QAnd, q.Where, q.Where)} {
		other := copied(q)
		other.Where = len(q.Nodes)
		other.Nodes = append(other.Nodes, n)
		goesOn(t, "a condition round the condition", q, other, types)
	}
}

func TestP14_6Columns(t *testing.T) {
	without := 0
	walk(t, 8, func(r *rand.Rand, q api.Query) {
		types, good := plainCheck(q)
		if !good {
			types = slices.Repeat([]int{0}, len(q.By)+len(q.Show))
		}
		for i := range q.By {
			other := copied(q)
			other.By = slices.Delete(other.By, i, i+1)
			beyond := func(o api.Order) bool { return o.Column < 0 || o.Column > len(q.By)+len(q.Show)-2 }
			if good && slices.ContainsFunc(q.Orders, beyond) {
				fails(t, other)
				continue
			}
			without++
			goesOn(t, "without one of by", q, other, slices.Delete(slices.Clone(types), i, i+1))
		}
		for i, f := range q.By {
			other := copied(q)
			other.By = append(other.By, f)
			goesOn(t, "one of by once more", q, other, slices.Insert(slices.Clone(types), len(q.By), types[i]))
		}
		for i, a := range q.Show {
			other := copied(q)
			other.Show = append(other.Show, a)
			goesOn(t, "one of show once more", q, other, append(slices.Clone(types), types[len(q.By)+i]))
		}
	})
	if without < 1000 {
		t.Error(without)
	}
}
