package typing

import (
	"math"
	"math/rand/v2"
	"slices"
	"strings"
	"testing"

	"daybook/api"
)

// plainFields: 14.1's table as it is written, but for the numbers, which are the lines'.
const plainFields = `seq num
line num
day day
kind num
key text
account text
amount money
debit money
credit money
tag text
memo text
month num
year num
root text`

// plainRows: 14.2's table as it is written: the Ops; each list of parts that fits, and the type that it gives.
const plainRows = `or and: bool bool bool
not: bool bool
= <>: num num bool, text text bool, day day bool, bool bool bool, money money bool, money num bool, num money bool
< <= > >=: num num bool, text text bool, day day bool, money money bool, money num bool, num money bool
under has: text text bool
+: num num num, money money money, day num day, num day day
-: num num num, money money money, day num day, day day num
*: num num num, money num money, num money money
neg: num num, money money`

var typeNumbers = map[string]int{"num": 1, "text": 2, "day": 3, "bool": 4, "money": 5}

var opNumbers = map[string]int{
	"or": api.QOr, "and": api.QAnd, "not": api.QNot, "=": api.QEq, "<>": api.QNe, "<": api.QLt, "<=": api.QLe, ">": api.QGt, ">=": api.QGe,
	"under": api.QUnder, "has": api.QHas, "+": api.QAdd, "-": api.QSub, "*": api.QMul, "neg": api.QNeg,
}

// fit: an Op with the types of its parts (0: it has no second one).
type fit struct{ op, left, right int }

// fits: each fit, and the type that it gives; arities: how many parts each Op has, leaves' not among them.
func fits() (gives map[fit]int, arities map[int]int) {
	gives, arities = map[fit]int{}, map[int]int{}
	for _, line := range strings.Split(plainRows, "\n") {
		ops, rest, _ := strings.Cut(line, ": ")
		for _, op := range strings.Fields(ops) {
			for _, said := range strings.Split(rest, ", ") {
				l := strings.Fields(said)
				f := fit{op: opNumbers[op], left: typeNumbers[l[0]]}
				if len(l) == 3 {
					f.right = typeNumbers[l[1]]
				}
				gives[f] = typeNumbers[l[len(l)-1]]
				arities[f.op] = len(l) - 1
			}
		}
	}
	return gives, arities
}

var plainGives, plainArities = fits()

func plainFieldType(f int) int {
	l := strings.Split(plainFields, "\n")
	if f < 1 || f > len(l) {
		return 0
	}
	return typeNumbers[strings.Fields(l[f-1])[1]]
}

// plainTypes: of each node its type, or 0.
func plainTypes(nodes []api.Node) map[int]int {
	types := map[int]int{}
	for place, n := range nodes {
		switch n.Op {
		case 16:
			types[place] = plainFieldType(n.Field)
		case 17:
			types[place] = 1
		case 18:
			types[place] = 2
		case 19:
			if n.Num > 0 && n.Num < 3652060 {
				types[place] = 3
			}
		case 20:
			if n.Num&^1 == 0 {
				types[place] = 4
			}
		default:
			f := fit{op: n.Op, left: types[n.Left]}
			if plainArities[n.Op] == 2 {
				f.right = types[n.Right]
			}
			types[place] = plainGives[f]
		}
	}
	return types
}

// plainCheck: what Check has to answer, point by point.
func plainCheck(q api.Query) ([]int, bool) {
	types := plainTypes(q.Nodes)
	var columns []int
	for place := range q.Nodes {
		if types[place] == 0 {
			return nil, false
		}
	}
	if q.Where != -1 && types[q.Where] != api.TBool {
		return nil, false
	}
	for _, f := range q.By {
		if f < 1 || f > 14 {
			return nil, false
		}
		columns = append(columns, plainFieldType(f))
	}
	for _, a := range q.Show {
		of := types[a.Of]
		good := map[int][]int{api.ACount: {0, 1, 2, 3, 4, 5}, api.ASum: {1, 5}, api.AMin: {1, 2, 3, 5}, api.AMax: {1, 2, 3, 5}}
		if !slices.Contains(good[a.Kind], of) {
			return nil, false
		}
		if a.Kind == api.ACount {
			of = api.TNum
		}
		columns = append(columns, of)
	}
	for _, o := range q.Orders {
		if o.Column < 0 || o.Column > len(columns)-1 {
			return nil, false
		}
	}
	return columns, len(q.Show) > 0 && q.Limit >= -1
}

// plainParts: the places of the parts of a condition, each as often as it is reached: as 14.3 finds them.
func plainParts(nodes []api.Node, place int) []int {
	n := nodes[place]
	if n.Op != api.QAnd {
		return []int{place}
	}
	return append(plainParts(nodes, n.Left), plainParts(nodes, n.Right)...)
}

// plainPart: what a part of a condition is.
func plainPart(nodes []api.Node, place int) string {
	n := nodes[place]
	if n.Op < api.QEq || n.Op > api.QHas {
		return "another"
	}
	left, right := nodes[n.Left], nodes[n.Right]
	account := left.Op == api.QField && left.Field == 6 && right.Op == api.QText
	day := left.Op == api.QField && left.Field == 3 && right.Op == api.QDay
	switch {
	case account && n.Op == api.QEq:
		return "account ="
	case account && n.Op == api.QUnder:
		return "account under"
	case day && n.Op != api.QNe:
		return "day"
	}
	return "another"
}

// plainPlan: what Plan has to answer.
func plainPlan(q api.Query) int {
	if _, means := plainCheck(q); !means || len(q.By) > 0 {
		return 1
	}
	for _, a := range q.Show {
		if a.Kind != api.ASum || q.Nodes[a.Of].Op != api.QField || q.Nodes[a.Of].Field != 7 {
			return 1
		}
	}
	if q.Where == -1 {
		return 2
	}
	if part := plainPart(q.Nodes, q.Where); part == "account =" || part == "account under" {
		return 2
	}
	count := map[string]int{}
	for _, place := range plainParts(q.Nodes, q.Where) {
		count[plainPart(q.Nodes, place)]++
	}
	if count["account ="] == 1 && count["day"] >= 1 && len(count) == 2 {
		return 3
	}
	return 1
}

// checksAsPlain: Check answers what the model does; it answers the types and whether the query means something.
func checksAsPlain(t *testing.T, q api.Query) ([]int, bool) {
	t.Helper()
	want, means := plainCheck(q)
	wantWhy := api.OK
	if !means {
		want, wantWhy = nil, api.ErrTyping
	}
	if got, why := Check(q); why != wantWhy || !slices.Equal(got, want) {
		t.Fatalf("Check(%+v): %v, %d; want %v, %d", q, got, int(why), want, int(wantWhy))
	}
	return want, means
}

// plansAsPlain: Plan answers what the model does.
func plansAsPlain(t *testing.T, q api.Query) int {
	t.Helper()
	want := plainPlan(q)
	if got := Plan(q); got != want {
		t.Fatalf("Plan(%+v): %d; want %d", q, got, want)
	}
	return want
}

// means, fails: Check answers so, and so does the model.
func means(t *testing.T, q api.Query, want ...int) {
	t.Helper()
	if got, why := Check(q); why != api.OK || !slices.Equal(got, want) {
		t.Errorf("Check(%+v): %v, %d; want %v", q, got, int(why), want)
		return
	}
	checksAsPlain(t, q)
}

func fails(t *testing.T, q api.Query) {
	t.Helper()
	if got, why := Check(q); why != api.ErrTyping || len(got) > 0 {
		t.Errorf("Check(%+v): %v, %d; want ErrTyping", q, got, int(why))
		return
	}
	checksAsPlain(t, q)
	plans(t, q, ByScan)
}

// plans: Plan answers so, and so does the model.
func plans(t *testing.T, q api.Query, want int) {
	t.Helper()
	if got := Plan(q); got != want {
		t.Errorf("Plan(%+v): %d; want %d", q, got, want)
		return
	}
	plansAsPlain(t, q)
}

// Nodes. What a node does not use is never looked at: here it is 0.
func num(n int64) api.Node     { return api.Node{Op: api.QNum, Num: n} }
func dayOf(n int64) api.Node   { return api.Node{Op: api.QDay, Num: n} }
func truth(n int64) api.Node   { return api.Node{Op: api.QBool, Num: n} }
func said(s string) api.Node   { return api.Node{Op: api.QText, Text: s} }
func fieldOf(f int) api.Node   { return api.Node{Op: api.QField, Field: f} }
func of(op, part int) api.Node { return api.Node{Op: op, Left: part} }
func between(op, left, right int) api.Node {
	return api.Node{Op: op, Left: left, Right: right}
}

// leaves: all that a node without parts can be, by its type.
func leaves() map[int][]api.Node {
	l := map[int][]api.Node{
		api.TNum: {num(0), num(7), num(-1), num(math.MaxInt64), num(math.MinInt64)}, api.TText: {said(""), said("Assets"), said("\x00\xff'")},
		api.TDay: {dayOf(1), dayOf(738886), dayOf(3652059)}, api.TBool: {truth(0), truth(1)},
	}
	for f := 1; f <= 14; f++ {
		l[plainFieldType(f)] = append(l[plainFieldType(f)], fieldOf(f))
	}
	return l
}

// untypedNodes: nodes that have no type, whatever stands ahead of them.
func untypedNodes() []api.Node {
	return []api.Node{{}, {Op: 21}, {Op: -1}, {Op: math.MinInt}, {Op: math.MaxInt}, fieldOf(0), fieldOf(15), fieldOf(-1), dayOf(0), dayOf(3652060), truth(2), truth(-1), of(api.QNot, -1), of(api.QNeg, math.MaxInt), between(api.QAnd, -1, -1)}
}

// counting: the query of these nodes that shows count.
func counting(nodes ...api.Node) api.Query {
	return api.Query{Nodes: nodes, Where: -1, Show: []api.Agg{{Kind: api.ACount, Of: -1}}, Limit: -1}
}

// lastType: the type of the last node, as queries about it tell; 0, if it has none.
func lastType(t *testing.T, nodes []api.Node) int {
	t.Helper()
	last := len(nodes) - 1
	q := counting(nodes...)
	if _, why := Check(q); why != api.OK {
		return 0
	}
	q.Where = last
	_, asCondition := Check(q)
	q.Where, q.Show = -1, []api.Agg{{Kind: api.AMin, Of: last}}
	l, asColumn := Check(q)
	switch {
	case asCondition == api.OK && asColumn == api.ErrTyping:
		return api.TBool
	case asCondition == api.ErrTyping && asColumn == api.OK && len(l) == 1:
		return l[0]
	}
	t.Fatalf("%+v: %d as condition, %v, %d as column", nodes, int(asCondition), l, int(asColumn))
	return 0
}

// copied: the same query in memory of its own.
func copied(q api.Query) api.Query {
	q.Nodes, q.By, q.Show, q.Orders = slices.Clone(q.Nodes), slices.Clone(q.By), slices.Clone(q.Show), slices.Clone(q.Orders)
	return q
}

func source(seed uint64) *rand.Rand { return rand.New(rand.NewPCG(14, seed)) }

func pick[T any](r *rand.Rand, from ...T) T { return from[r.IntN(len(from))] }

// ends: places and numbers that are mostly none.
var ends = []int{math.MinInt, -3, -2, -1, 0, 1, 14, 15, 16, 20, 21, 1 << 32, math.MaxInt}

// filled: the node with anything in the fields that its Op does not use.
func filled(r *rand.Rand, n api.Node) api.Node {
	if plainArities[n.Op] < 2 {
		n.Right = pick(r, ends...)
	}
	if plainArities[n.Op] < 1 {
		n.Left = pick(r, ends...)
	}
	if n.Op != api.QField {
		n.Field = pick(r, ends...)
	}
	if n.Op != api.QNum && n.Op != api.QDay && n.Op != api.QBool {
		n.Num = int64(pick(r, ends...))
	}
	if n.Op != api.QText {
		n.Text = pick(r, "", "x", "day", "\xff")
	}
	return n
}

// anyNodes: so many nodes with types, parts of all kinds and often named again.
func anyNodes(r *rand.Rand, size int) []api.Node {
	var nodes []api.Node
	all := leaves()
	for len(nodes) < size {
		n := pick(r, all[1+r.IntN(5)]...)
		if len(nodes) > 0 && r.IntN(3) > 0 {
			for range 40 {
				op := between(1+r.IntN(15), r.IntN(len(nodes)), r.IntN(len(nodes)))
				if plainTypes(append(slices.Clip(nodes), op))[len(nodes)] != 0 {
					n = op
					break
				}
			}
		}
		nodes = append(nodes, filled(r, n))
	}
	return nodes
}

// placesOf: of the nodes with one of these types.
func placesOf(nodes []api.Node, types ...int) (l []int) {
	of := plainTypes(nodes)
	for place := range nodes {
		if slices.Contains(types, of[place]) {
			l = append(l, place)
		}
	}
	return l
}

// anyMeaning: a query that means something.
func anyMeaning(r *rand.Rand) api.Query {
	q := api.Query{Nodes: anyNodes(r, r.IntN(14)), Where: -1, Limit: pick(r, -1, -1, 0, 1, 7, math.MaxInt)}
	if l := placesOf(q.Nodes, api.TBool); len(l) > 0 && r.IntN(4) > 0 {
		q.Where = pick(r, l...)
	}
	for range r.IntN(4) {
		q.By = append(q.By, 1+r.IntN(14))
	}
	for range 1 + r.IntN(3) {
		a := api.Agg{Kind: api.ACount, Of: pick(r, ends...)}
		if l := placesOf(q.Nodes, api.TNum, api.TMoney); len(l) > 0 && r.IntN(3) == 0 {
			a = api.Agg{Kind: api.ASum, Of: pick(r, l...)}
		}
		if l := placesOf(q.Nodes, api.TNum, api.TMoney, api.TText, api.TDay); len(l) > 0 && r.IntN(3) == 0 {
			a = api.Agg{Kind: pick(r, api.AMin, api.AMax), Of: pick(r, l...)}
		}
		q.Show = append(q.Show, a)
	}
	for range r.IntN(3) {
		q.Orders = append(q.Orders, api.Order{Column: r.IntN(len(q.By) + len(q.Show)), Desc: r.IntN(2) == 0})
	}
	return q
}

// spoilt: the query with one of its numbers changed: it may mean something still.
func spoilt(r *rand.Rand, q api.Query) api.Query {
	q = copied(q)
	near := pick(r, append(slices.Clone(ends), len(q.Nodes)-1, len(q.Nodes), len(q.By)+len(q.Show))...)
	change := func(n *int) { *n = pick(r, near, *n+1, *n-1, r.IntN(22)) }
	switch r.IntN(8) {
	case 0:
		change(&q.Where)
	case 1:
		q.By = append(q.By, pick(r, near, 0, 15))
	case 2:
		change(&q.Show[r.IntN(len(q.Show))].Of)
	case 3:
		change(&q.Show[r.IntN(len(q.Show))].Kind)
	case 4:
		q.Orders = append(q.Orders, api.Order{Column: pick(r, near, -1, len(q.By)+len(q.Show))})
	case 5:
		change(&q.Limit)
	}
	if len(q.Nodes) == 0 {
		return q
	}
	n := &q.Nodes[r.IntN(len(q.Nodes))]
	switch r.IntN(8) {
	case 0:
		change(&n.Op)
	case 1:
		change(&n.Left)
	case 2:
		change(&n.Right)
	case 3:
		change(&n.Field)
	case 4:
		n.Num = pick(r, int64(near), n.Num+1, 0, 3652059, 3652060)
	}
	return q
}
