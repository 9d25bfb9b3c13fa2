package grammar

import (
	"slices"

	"daybook/api"
)

// wellFormed tells whether a query would be read of some text, were there no bounds of length, depth and parts.
func wellFormed(q api.Query) bool {
	if len(q.Show) == 0 || q.Limit < none || q.Limit > maxLimit {
		return false
	}
	if !all(q.By, isField) || !all(q.Show, isAggregate) || !all(q.Orders, isOrder) {
		return false
	}
	ends, read := expressions(q.Nodes)
	return read && slices.Equal(ends, named(q))
}

// all tells whether each of a list is of one sort.
func all[T any](l []T, sort func(T) bool) bool {
	for _, x := range l {
		if !sort(x) {
			return false
		}
	}
	return true
}

// isAggregate does not look where the expression is.
func isAggregate(a api.Agg) bool {
	return a.Kind == api.ACount && a.Of == none || a.Kind > api.ACount && a.Kind < len(aggregateNames())
}

func isOrder(o api.Order) bool { return o.Column >= 0 && o.Column < maxColumn }

// named is the places of the expressions' own nodes, as the query names them in the order of the text.
func named(q api.Query) []int {
	var l []int
	if q.Where != none {
		l = append(l, q.Where)
	}
	for _, a := range q.Show {
		if a.Kind != api.ACount {
			l = append(l, a.Of)
		}
	}
	return l
}

// expressions is the places of the own nodes of expressions that stand one behind the other; false, if nodes are never read so.
// It goes through them once, as they may be nested deeper than any text's.
func expressions(nodes []api.Node) ([]int, bool) {
	var whole []int // those that are no part of another one so far
	for place, n := range nodes {
		rest := len(whole) - arity(n.Op)
		if rest < 0 || !isRead(n, whole[rest:]) {
			return nil, false
		}
		whole = append(whole[:rest], place)
	}
	return whole, true
}

// arity is how many parts an Op's node has.
func arity(op int) int {
	switch levelOf(op) {
	case 0, atomLevel:
		return 0
	case notLevel, signLevel:
		return 1
	}
	return 2
}

// isRead tells whether a node is as it is read when its parts' own nodes stand at these places.
func isRead(n api.Node, parts []int) bool {
	switch len(parts) {
	case 0:
		return isLeaf(n)
	case 1:
		return n == api.Node{Op: n.Op, Left: parts[0], Right: none}
	}
	return n == api.Node{Op: n.Op, Left: parts[0], Right: parts[1]}
}

// isLeaf tells whether a node is as an atom's token is read.
func isLeaf(n api.Node) bool {
	plain := api.Node{Op: n.Op, Left: none, Right: none}
	good := false
	switch n.Op {
	case api.QField:
		plain.Field, good = n.Field, isField(n.Field)
	case api.QNum:
		plain.Num, good = n.Num, n.Num >= 0
	case api.QDay:
		plain.Num, good = n.Num, n.Num >= api.MinDay && n.Num <= api.MaxDay
	case api.QBool:
		plain.Num, good = n.Num, n.Num == 0 || n.Num == 1
	case api.QText:
		plain.Text, good = n.Text, run(n.Text, inText) == len(n.Text)
	}
	return good && n == plain
}
