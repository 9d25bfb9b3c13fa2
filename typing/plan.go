package typing

import (
	"slices"

	"daybook/api"
)

// The ways in which a query can be answered.
const (
	ByScan  = 1
	BySums  = 2
	ByDaily = 3
)

// Plan is the quickest way in which a query can be answered (ByScan, where it means nothing).
func Plan(q api.Query) int {
	switch {
	case !isBareSum(q):
		return ByScan
	case q.Where == none || isAccounts(q.Nodes, q.Where, api.QEq, api.QUnder):
		return BySums
	case conditionOf(q).isDaily():
		return ByDaily
	}
	return ByScan
}

// isBareSum tells whether a query asks for nothing but sums of amounts, all of them of the same rows.
func isBareSum(q api.Query) bool {
	if _, why := Check(q); why != api.OK || len(q.By) > 0 {
		return false
	}
	for _, a := range q.Show {
		if a.Kind != api.ASum || !isOfField(q.Nodes[a.Of], api.FAmount) {
			return false
		}
	}
	return true
}

func isOfField(n api.Node, field int) bool { return n.Op == api.QField && n.Field == field }

// isAccounts tells whether the node at a place is one of some operations between account and a text.
func isAccounts(nodes []api.Node, place int, ops ...int) bool {
	n := nodes[place]
	return slices.Contains(ops, n.Op) && isOfField(nodes[n.Left], api.FAccount) && nodes[n.Right].Op == api.QText
}

// isDays tells whether the node at a place is one of some operations between day and a day.
func isDays(nodes []api.Node, place int, ops ...int) bool {
	n := nodes[place]
	return slices.Contains(ops, n.Op) && isOfField(nodes[n.Left], api.FDay) && nodes[n.Right].Op == api.QDay
}

// parts is how many parts of each sort a condition has, the others being all that daily balances don't know.
type parts struct{ accounts, days, others int }

func (p parts) isDaily() bool { return p.accounts == 1 && p.days > 0 && p.others == 0 }

// many is as far as parts are counted: there may be more than any int counts.
const many = 2

func (p parts) and(q parts) parts {
	return parts{
		accounts: min(p.accounts+q.accounts, many),
		days:     min(p.days+q.days, many),
		others:   min(p.others+q.others, many),
	}
}

// conditionOf counts the parts of the condition that a query has.
// It goes through the nodes in their order, as they may be nested deep and reached in very many ways.
func conditionOf(q api.Query) parts {
	counts := make([]parts, 0, q.Where+1)
	for place, n := range q.Nodes[:q.Where+1] {
		if n.Op == api.QAnd {
			counts = append(counts, counts[n.Left].and(counts[n.Right]))
		} else {
			counts = append(counts, partOf(q.Nodes, place))
		}
	}
	return counts[q.Where]
}

// partOf counts a node that is one part of a condition.
func partOf(nodes []api.Node, place int) parts {
	switch {
	case isAccounts(nodes, place, api.QEq):
		return parts{accounts: 1}
	case isDays(nodes, place, api.QEq, api.QLt, api.QLe, api.QGt, api.QGe):
		return parts{days: 1}
	}
	return parts{others: 1}
}
