package typing

import (
	"math"
	"slices"
	"testing"

	"daybook/api"
)

// What stands ahead of the conditions here.
const (
	amountAt = iota
	accountAt
	textAt
	fieldDayAt
	dayAt
	relationsAt
)

// summing: the query that shows the sum of amount, with these nodes behind those ahead, and the last one as its condition.
func summing(nodes ...api.Node) api.Query {
	l := append([]api.Node{fieldOf(api.FAmount), fieldOf(api.FAccount), said("Assets"), fieldOf(api.FDay), dayOf(738886)}, nodes...)
	return api.Query{Nodes: l, Where: len(l) - 1, Show: []api.Agg{{Kind: api.ASum, Of: amountAt}}, Limit: -1}
}

func anAccount(op int) api.Node { return between(op, accountAt, textAt) }
func aDay(op int) api.Node      { return between(op, fieldDayAt, dayAt) }

func everywhere() api.Query {
	q := summing()
	q.Where = -1
	return q
}

func TestP14_3Ways(t *testing.T) {
	if ByScan != 1 || BySums != 2 || ByDaily != 3 {
		t.Error(ByScan, BySums, ByDaily)
	}
}

func TestP14_3NoCondition(t *testing.T) {
	q := everywhere()
	plans(t, q, BySums)
	q.Show = append(q.Show, q.Show[0], q.Show[0])
	plans(t, q, BySums)
	for _, limit := range []int{0, 1, math.MaxInt} {
		q.Limit = limit
		plans(t, q, BySums)
	}
	q.Orders = []api.Order{{Column: 2, Desc: true}, {Column: 0}}
	plans(t, q, BySums)
	q.By = []int{}
	plans(t, q, BySums)
}

// Neighbours of a bare sum, with each condition that would be quick.
func TestP14_3NoBareSum(t *testing.T) {
	for _, q := range []api.Query{everywhere(), summing(anAccount(api.QEq)), summing(anAccount(api.QUnder)), summing(anAccount(api.QEq), aDay(api.QLe), between(api.QAnd, relationsAt, relationsAt+1))} {
		if plainPlan(q) == ByScan {
			t.Fatal("it is quick")
		}
		for f := 1; f <= 14; f++ {
			other := copied(q)
			other.By = []int{f}
			plans(t, other, ByScan)
			other = copied(q)
			other.Nodes = append(other.Nodes, fieldOf(f))
			other.Show[0].Of = len(other.Nodes) - 1
			if f == api.FAmount {
				plansAsPlain(t, other)
				continue
			}
			plans(t, other, ByScan)
			other.Show = append(other.Show, q.Show[0])
			plans(t, other, ByScan)
			slices.Reverse(other.Show)
			plans(t, other, ByScan)
		}
		for _, kind := range []int{api.ACount, api.AMin, api.AMax, 0, 5} {
			other := copied(q)
			other.Show[0].Kind = kind
			plans(t, other, ByScan)
			other.Show = append(other.Show, q.Show[0])
			plans(t, other, ByScan)
			slices.Reverse(other.Show)
			plans(t, other, ByScan)
		}
		for _, n := range []api.Node{of(api.QNeg, amountAt), between(api.QAdd, amountAt, amountAt), between(api.QSub, amountAt, amountAt), num(7)} {
			other := copied(q)
			n.Field = api.FAmount // of another Op it is not used
			other.Nodes = append(other.Nodes, n)
			other.Show[0].Of = len(other.Nodes) - 1
			if _, why := Check(other); why != api.OK {
				t.Fatal(other)
			}
			plans(t, other, ByScan)
		}
	}
}

// What means nothing goes by the scan, whatever else it looks like.
func TestP14_3NoMeaning(t *testing.T) {
	for _, q := range []api.Query{everywhere(), summing(anAccount(api.QEq)), summing(anAccount(api.QUnder)), summing(anAccount(api.QEq), aDay(api.QLe), between(api.QAnd, relationsAt, relationsAt+1))} {
		for _, spoil := range []func(q *api.Query){
			func(q *api.Query) { q.Nodes = append(q.Nodes, api.Node{}) },
			func(q *api.Query) { q.Where = len(q.Nodes) },
			func(q *api.Query) { q.Where = -2 },
			func(q *api.Query) { q.Where = math.MinInt },
			func(q *api.Query) { q.Where = math.MaxInt },
			func(q *api.Query) { q.Where = amountAt },
			func(q *api.Query) { q.By = []int{0} },
			func(q *api.Query) { q.Show = nil },
			func(q *api.Query) { q.Show[0].Of = -1 },
			func(q *api.Query) { q.Show[0].Of = len(q.Nodes) },
			func(q *api.Query) { q.Show[0].Of = math.MaxInt },
			func(q *api.Query) { q.Orders = []api.Order{{Column: 1}} },
			func(q *api.Query) { q.Limit = -2 },
			func(q *api.Query) { q.Nodes[dayAt].Num = 0 },
		} {
			other := copied(q)
			spoil(&other)
			fails(t, other)
		}
	}
	for _, places := range [][2]int{{-1, textAt}, {accountAt, -1}, {accountAt, relationsAt}, {relationsAt, textAt}, {math.MaxInt, math.MinInt}, {accountAt, relationsAt + 1}} {
		fails(t, summing(between(api.QEq, places[0], places[1])))
		fails(t, summing(between(api.QUnder, places[0], places[1])))
		fails(t, summing(between(api.QAnd, places[0], places[1])))
	}
	fails(t, api.Query{})
}

// Each relation between each two leaves as the only part, and beside one of each other sort.
func TestP14_3Parts(t *testing.T) {
	l := []api.Node{said(""), said("x y"), num(5), dayOf(1), dayOf(3652059), truth(1), truth(0)}
	for f := 1; f <= 14; f++ {
		l = append(l, fieldOf(f))
	}
	count := map[int]int{}
	for op := api.QOr; op <= api.QHas; op++ {
		for _, left := range l {
			for _, right := range l {
				part := []api.Node{left, right, between(op, relationsAt, relationsAt+1)}
				q := summing(part...)
				if _, why := Check(q); why != api.OK {
					continue
				}
				count[plansAsPlain(t, q)]++
				for _, other := range []api.Node{anAccount(api.QEq), anAccount(api.QUnder), aDay(api.QGe)} {
					for _, both := range []api.Node{between(api.QAnd, relationsAt+2, relationsAt+3), between(api.QAnd, relationsAt+3, relationsAt+2)} {
						count[plansAsPlain(t, summing(append(slices.Clone(part), other, both)...))]++
					}
				}
			}
		}
	}
	// account = and under two texts alone; account = with a day's part, and five relations of day and two days with the account's.
	if count[BySums] != 4 || count[ByDaily] != 2*2+2*10 || count[ByScan] < 1000 {
		t.Errorf("%v", count)
	}
}

func TestP14_3Accounts(t *testing.T) {
	plans(t, summing(anAccount(api.QEq)), BySums)
	plans(t, summing(anAccount(api.QUnder)), BySums)
	for op := api.QNe; op <= api.QHas; op++ {
		if op != api.QUnder {
			plans(t, summing(anAccount(op)), ByScan)
		}
	}
	plans(t, summing(between(api.QEq, textAt, accountAt)), ByScan)
	plans(t, summing(between(api.QUnder, textAt, accountAt)), ByScan)
	plans(t, summing(between(api.QEq, accountAt, accountAt)), ByScan)
	plans(t, summing(between(api.QEq, textAt, textAt)), ByScan)
	plans(t, summing(anAccount(api.QEq), of(api.QNot, relationsAt)), ByScan)
	plans(t, summing(anAccount(api.QEq), between(api.QOr, relationsAt, relationsAt)), ByScan)
	plans(t, summing(anAccount(api.QEq), between(api.QAnd, relationsAt, relationsAt)), ByScan)
	plans(t, summing(anAccount(api.QEq), truth(1), between(api.QEq, relationsAt, relationsAt+1)), ByScan)
	plans(t, summing(anAccount(api.QEq), truth(1), between(api.QAnd, relationsAt, relationsAt+1)), ByScan)
	// Nodes behind the condition's and ahead of it that it does not name.
	q := summing(aDay(api.QNe), anAccount(api.QEq), truth(1), between(api.QAnd, relationsAt, relationsAt))
	q.Where = relationsAt + 1
	plans(t, q, BySums)
}

func TestP14_3Days(t *testing.T) {
	both := between(api.QAnd, relationsAt, relationsAt+1)
	for op := api.QEq; op <= api.QGe; op++ {
		want := ByDaily
		if op == api.QNe {
			want = ByScan
		}
		plans(t, summing(anAccount(api.QEq), aDay(op), both), want)
		plans(t, summing(aDay(op), anAccount(api.QEq), both), want)
		plans(t, summing(aDay(op), anAccount(api.QUnder), both), ByScan)
		plans(t, summing(aDay(op), anAccount(api.QNe), both), ByScan)
		plans(t, summing(aDay(op)), ByScan)
		plans(t, summing(aDay(op), aDay(op), both), ByScan)
		plans(t, summing(between(op, dayAt, fieldDayAt), anAccount(api.QEq), both), ByScan)
		plans(t, summing(between(op, fieldDayAt, fieldDayAt), anAccount(api.QEq), both), ByScan)
		plans(t, summing(between(op, dayAt, dayAt), anAccount(api.QEq), both), ByScan)
	}
	plans(t, summing(anAccount(api.QEq), aDay(api.QEq), between(api.QOr, relationsAt, relationsAt+1)), ByScan)
	// day + 0 and -(-day) are no fields.
	plans(t, summing(anAccount(api.QEq), num(0), between(api.QAdd, fieldDayAt, relationsAt+1), between(api.QLe, relationsAt+2, dayAt), between(api.QAnd, relationsAt, relationsAt+3)), ByScan)
	plans(t, summing(anAccount(api.QEq), num(0), between(api.QAdd, dayAt, relationsAt+1), between(api.QLe, fieldDayAt, relationsAt+2), between(api.QAnd, relationsAt, relationsAt+3)), ByScan)
	// A second account's part with under, a truth, a not beside them.
	for _, other := range []api.Node{anAccount(api.QUnder), anAccount(api.QEq), anAccount(api.QNe), truth(1), of(api.QNot, relationsAt), between(api.QOr, relationsAt, relationsAt), between(api.QEq, relationsAt, relationsAt)} {
		plans(t, summing(aDay(api.QLe), anAccount(api.QEq), between(api.QAnd, relationsAt, relationsAt+1), other, between(api.QAnd, relationsAt+2, relationsAt+3)), ByScan)
	}
	plans(t, summing(aDay(api.QLe), anAccount(api.QEq), between(api.QAnd, relationsAt, relationsAt+1), aDay(api.QGt), between(api.QAnd, relationsAt+2, relationsAt+3)), ByDaily)
}

// A part that is reached in two ways counts twice.
func TestP14_3Twice(t *testing.T) {
	const account, day, next = relationsAt, relationsAt + 1, relationsAt + 2
	nodes := []api.Node{anAccount(api.QEq), aDay(api.QGt)}
	with := func(more ...api.Node) api.Query { return summing(append(slices.Clone(nodes), more...)...) }
	plans(t, with(between(api.QAnd, account, day), between(api.QAnd, next, account)), ByScan)
	plans(t, with(between(api.QAnd, account, day), between(api.QAnd, account, next)), ByScan)
	plans(t, with(between(api.QAnd, account, day), between(api.QAnd, next, day)), ByDaily)
	plans(t, with(between(api.QAnd, account, day), between(api.QAnd, day, next)), ByDaily)
	plans(t, with(between(api.QAnd, account, day), between(api.QAnd, next, next)), ByScan)
	plans(t, with(between(api.QAnd, day, day), between(api.QAnd, account, next)), ByDaily)
	plans(t, with(between(api.QAnd, account, account), between(api.QAnd, day, next)), ByScan)
	plans(t, with(between(api.QAnd, account, account)), ByScan)
	plans(t, with(between(api.QAnd, day, day)), ByScan)
	// What stands among the nodes twice, and is reached once.
	q := with(anAccount(api.QEq), between(api.QAnd, account, day))
	plans(t, q, ByDaily)
}

// One part reached in very many ways, up to more than any int counts, beside one of another sort.
func TestP14_3VeryMany(t *testing.T) {
	for doublings := 1; doublings <= 300; doublings++ {
		for _, x := range []struct {
			many, one api.Node
			want      int
		}{
			{aDay(api.QLt), anAccount(api.QEq), ByDaily},
			{anAccount(api.QEq), aDay(api.QLt), ByScan},
			{truth(1), anAccount(api.QEq), ByScan},
			{anAccount(api.QUnder), aDay(api.QLt), ByScan},
			{aDay(api.QLt), aDay(api.QLt), ByScan},
			{aDay(api.QLt), anAccount(api.QUnder), ByScan},
		} {
			nodes := []api.Node{x.one, x.many}
			for i := range doublings {
				nodes = append(nodes, between(api.QAnd, relationsAt+1+i, relationsAt+1+i))
			}
			q := summing(append(nodes, between(api.QAnd, relationsAt, relationsAt+1+doublings))...)
			if got := Plan(q); got != x.want {
				t.Fatalf("%d times over: %d; want %d: %+v", doublings, got, x.want, x)
			}
			if doublings < 8 {
				plansAsPlain(t, q)
			}
			q.Where--
			if got := Plan(q); got != ByScan {
				t.Fatalf("%d times over, nothing beside it: %d", doublings, got)
			}
		}
	}
}

// Hundred doublings of a day's part and of a truth, of which the condition names the first alone.
func TestP14_3VeryManyBesides(t *testing.T) {
	nodes := []api.Node{anAccount(api.QEq), aDay(api.QLt), truth(1)}
	for i := range 200 {
		nodes = append(nodes, between(api.QAnd, relationsAt+1+i, relationsAt+1+i))
	}
	q := summing(append(nodes, between(api.QAnd, relationsAt, relationsAt+201))...)
	plans(t, summing(append(slices.Clone(nodes[:3]), between(api.QAnd, relationsAt, relationsAt+1))...), ByDaily)
	if got := Plan(q); got != ByDaily {
		t.Errorf("every second doubling is of the day's part: %d", got)
	}
	q.Nodes[len(q.Nodes)-1].Right--
	if got := Plan(q); got != ByScan {
		t.Errorf("every second doubling is of the truth: %d", got)
	}
}

// Conditions nested as deep as there are nodes, to the left, to the right, and to both sides by turns.
func TestP14_3Deep(t *testing.T) {
	const size = 1 << 19
	for side := range 3 {
		for _, x := range []struct {
			first, other api.Node
			want         int
		}{{anAccount(api.QEq), aDay(api.QGe), ByDaily}, {aDay(api.QGe), anAccount(api.QEq), ByScan}, {truth(1), aDay(api.QGe), ByScan}, {anAccount(api.QUnder), aDay(api.QGe), ByScan}} {
			nodes := []api.Node{x.other, x.first}
			for i := range size {
				n := between(api.QAnd, relationsAt, relationsAt+1+i)
				if side == 1 || side == 2 && i%2 == 0 {
					n.Left, n.Right = n.Right, n.Left
				}
				nodes = append(nodes, n)
			}
			if got := Plan(summing(nodes...)); got != x.want {
				t.Errorf("side %d: %d; want %d: %+v", side, got, x.want, x)
			}
		}
	}
	nodes := []api.Node{anAccount(api.QEq)}
	for i := range size {
		nodes = append(nodes, of(api.QNot, relationsAt+i))
	}
	if got := Plan(summing(nodes...)); got != ByScan {
		t.Errorf("nots: %d", got)
	}
}
