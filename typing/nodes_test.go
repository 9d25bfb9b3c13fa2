package typing

import (
	"math"
	"slices"
	"testing"

	"daybook/api"
)

// hasType: the last node's type is this (0: it has none), and the model says so too.
func hasType(t *testing.T, want int, nodes ...api.Node) {
	t.Helper()
	if got := lastType(t, nodes); got != want {
		t.Errorf("%+v: type %d; want %d", nodes, got, want)
	}
	if got := plainTypes(nodes)[len(nodes)-1]; got != want {
		t.Fatalf("the model: %+v: type %d; want %d", nodes, got, want)
	}
}

func TestP14_2Leaves(t *testing.T) {
	for want, l := range leaves() {
		for _, n := range l {
			hasType(t, want, n)
		}
	}
	for _, f := range []int{0, 15, -1, -7, 16, 1 << 32, 1<<32 + 7, math.MinInt, math.MaxInt} {
		hasType(t, 0, fieldOf(f))
	}
	for _, n := range []int64{1, 2, 3652058, 3652059} {
		hasType(t, api.TDay, dayOf(n))
	}
	for _, n := range []int64{0, -1, 3652060, 1 << 32, 1<<32 + 1, math.MinInt64, math.MinInt64 + 1, math.MaxInt64} {
		hasType(t, 0, dayOf(n))
	}
	for _, n := range []int64{2, 3, -1, -2, 256, 257, 1 << 32, 1<<32 + 1, math.MinInt64, math.MinInt64 + 1, math.MaxInt64} {
		hasType(t, 0, truth(n))
	}
}

func TestP14_2NoOps(t *testing.T) {
	for _, op := range []int{0, 21, 22, -1, -2, -16, 100, 1 << 32, 1<<32 + 1, 1<<32 + 17, math.MinInt, math.MinInt + 17, math.MaxInt} {
		for _, l := range leaves() {
			n := l[0]
			n.Op = op
			hasType(t, 0, n)
			hasType(t, 0, l[0], between(op, 0, 0))
			hasType(t, 0, l[0], l[0], between(op, 0, 1))
		}
	}
}

// Every Op with parts of every pair of types, made of every leaf.
func TestP14_2Rows(t *testing.T) {
	all := leaves()
	fitting := map[int]int{}
	for op := range plainArities {
		for left := 1; left <= 5; left++ {
			for right := 1; right <= 5; right++ {
				want := plainGives[fit{op, left, right}]
				if plainArities[op] == 1 {
					want = plainGives[fit{op, left, 0}]
				}
				if want != 0 {
					fitting[op]++
				}
				for _, one := range all[left] {
					for _, other := range all[right] {
						hasType(t, want, one, other, between(op, 0, 1))
						hasType(t, want, other, one, between(op, 1, 0))
					}
					if left == right {
						hasType(t, want, one, between(op, 0, 0))
					}
				}
			}
		}
	}
	for op, want := range map[int]int{
		api.QOr: 1, api.QAnd: 1, api.QNot: 5, api.QEq: 7, api.QNe: 7, api.QLt: 6, api.QLe: 6, api.QGt: 6, api.QGe: 6,
		api.QUnder: 1, api.QHas: 1, api.QAdd: 4, api.QSub: 4, api.QMul: 3, api.QNeg: 10,
	} {
		if fitting[op] != want {
			t.Errorf("Op %d: %d pairs of types fit; want %d", op, fitting[op], want)
		}
	}
}

// Parts that have parts: what an operation gives is what the next one takes.
func TestP14_2Nested(t *testing.T) {
	all := leaves()
	for inner := range plainGives {
		first := []api.Node{pick(source(1), all[inner.left]...), said("")}
		if inner.right != 0 {
			first[1] = all[inner.right][0]
		}
		first = append(first, between(inner.op, 0, 1))
		gives := plainGives[inner]
		hasType(t, gives, first...)
		for op, arity := range plainArities {
			if arity == 1 {
				hasType(t, plainGives[fit{op, gives, 0}], append(slices.Clone(first), of(op, 2))...)
				continue
			}
			for other := 1; other <= 5; other++ {
				nodes := append(slices.Clone(first), all[other][0])
				hasType(t, plainGives[fit{op, gives, other}], append(slices.Clone(nodes), between(op, 2, 3))...)
				hasType(t, plainGives[fit{op, other, gives}], append(slices.Clone(nodes), between(op, 3, 2))...)
			}
			hasType(t, plainGives[fit{op, gives, gives}], append(slices.Clone(first), between(op, 2, 2))...)
		}
	}
}

// goodParts: of each Op two leaves that fit it.
func goodParts(op int) (api.Node, api.Node) {
	switch op {
	case api.QOr, api.QAnd, api.QNot:
		return truth(1), truth(0)
	case api.QUnder, api.QHas:
		return fieldOf(api.FAccount), said("A")
	}
	return num(1), fieldOf(api.FSeq)
}

// A part is a place ahead of the node: not its own, none behind it, none that there isn't.
func TestP14_2Places(t *testing.T) {
	for op, arity := range plainArities {
		one, other := goodParts(op)
		nodes := []api.Node{one, other, one, {}, other, one}
		for _, place := range []int{math.MinInt, -1 << 32, -7, -6, -3, -2, -1, 0, 1, 2, 3, 4, 5, 6, 7, 1 << 32, 1<<32 + 1, math.MaxInt} {
			good := place >= 0 && place < 3
			ask := func(left, right int, good bool) {
				t.Helper()
				nodes[3] = between(op, left, right)
				if q := counting(nodes...); good {
					means(t, q, api.TNum)
				} else {
					fails(t, q)
				}
			}
			ask(place, 0, good)
			ask(0, place, good || arity == 1)
			ask(place, place, good)
		}
	}
}

// A part whose own node has no type: at the left, at the right, and whatever stands elsewhere.
func TestP14_2UntypedParts(t *testing.T) {
	for op := range plainArities {
		one, other := goodParts(op)
		for _, bad := range untypedNodes() {
			fails(t, counting(bad, other, between(op, 0, 1)))
			fails(t, counting(one, bad, between(op, 0, 1)))
			fails(t, counting(bad, bad, between(op, 0, 1)))
			fails(t, counting(bad, between(op, 0, 0)))
		}
	}
}

// A node without a type that nothing names, at each place.
func TestP14_2UntypedAlone(t *testing.T) {
	good := []api.Node{fieldOf(api.FAccount), said("A"), between(api.QEq, 0, 1), fieldOf(api.FAmount)}
	q := api.Query{Nodes: good, Where: 2, Show: []api.Agg{{Kind: api.ASum, Of: 3}}, Limit: -1}
	means(t, q, api.TMoney)
	for _, bad := range untypedNodes() {
		at := copied(q)
		at.Nodes = append(at.Nodes, bad)
		fails(t, at)
		at.Nodes = append([]api.Node{bad}, good...)
		at.Nodes[3].Left, at.Nodes[3].Right, at.Where, at.Show[0].Of = 1, 2, 3, 4
		fails(t, at)
		at.Nodes[0] = num(0)
		means(t, at, api.TMoney)
		fails(t, counting(bad))
	}
	fails(t, counting(num(1), said(""), between(api.QAdd, 0, 1)))
}

// Fields that an Op does not use may hold anything.
func TestP14_2Unused(t *testing.T) {
	r := source(2)
	all := leaves()
	for want, l := range all {
		for _, n := range l {
			for range 20 {
				hasType(t, want, filled(r, n))
			}
			for _, x := range ends {
				junk := n
				junk.Left, junk.Right = x, x
				hasType(t, want, junk)
			}
		}
	}
	for f, want := range plainGives {
		for range 20 {
			right := all[api.TText][0]
			if f.right != 0 {
				right = all[f.right][0]
			}
			hasType(t, want, filled(r, all[f.left][0]), filled(r, right), filled(r, between(f.op, 0, 1)))
		}
	}
	for _, x := range append([]int{5}, ends...) {
		hasType(t, api.TBool, truth(1), api.Node{Op: api.QNot, Left: 0, Right: x, Field: x, Num: int64(x), Text: "x"})
		hasType(t, api.TMoney, fieldOf(api.FDebit), api.Node{Op: api.QNeg, Left: 0, Right: x, Field: x, Num: int64(x), Text: "x"})
	}
}

// Nodes nested as deep as there are nodes, and named in very many ways: answered at once.
func TestP14_2Deep(t *testing.T) {
	const size = 1 << 19
	for _, start := range []struct {
		leaf api.Node
		op   int
	}{{truth(1), api.QNot}, {num(1), api.QNeg}, {truth(0), api.QAnd}, {truth(0), api.QOr}, {truth(0), api.QEq}, {num(1), api.QMul}, {fieldOf(api.FAmount), api.QSub}} {
		nodes := []api.Node{start.leaf}
		for i := range size {
			nodes = append(nodes, between(start.op, i, i))
		}
		want := plainTypes(nodes[:1])[0]
		if got := lastType(t, nodes); got != want {
			t.Errorf("Op %d: %d; want %d", start.op, got, want)
		}
		nodes[0] = said("")
		if got := lastType(t, nodes); got != 0 && start.op != api.QEq {
			t.Errorf("Op %d of a text: %d", start.op, got)
		}
	}
}
