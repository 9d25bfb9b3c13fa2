package answer

import (
	"iter"

	"daybook/api"
	"daybook/daily"
	"daybook/sums"
	"daybook/typing"
)

// bareSum is the table of a query all of whose columns are one sum.
func bareSum(q api.Query, sum int64) api.Table {
	types, _ := typing.Check(q)
	row := make([]api.Cell, len(types))
	for i, valueType := range types {
		row[i] = api.Cell{Type: valueType, Num: sum}
	}
	return api.Table{Types: types, Rows: first([][]api.Cell{row}, q.Limit)}
}

// fromSums is the sum of a query whose plan is BySums.
func fromSums(q api.Query, s *sums.Sums) int64 {
	if q.Where < 0 {
		debits, credits := s.Totals()
		return debits - credits
	}
	where := q.Nodes[q.Where]
	account := q.Nodes[where.Right].Text
	if where.Op == api.QUnder {
		return s.Rollup(account)
	}
	return s.Own(account)
}

// fromDaily is the sum of a query whose plan is ByDaily.
func fromDaily(q api.Query, d *daily.Daily) int64 {
	account, days := "", span{api.MinDay, api.MaxDay}
	for part := range parts(q) {
		right := q.Nodes[part.Right]
		if right.Op == api.QText {
			account = right.Text
		} else {
			days = days.and(part.Op, int(right.Num))
		}
	}
	if days.first > days.last {
		return 0
	}
	// The books' turnover bounds every difference of balances.
	return d.At(account, days.last) - d.At(account, days.first-1)
}

// span is the days from one to another; none, if the first is behind the last.
type span struct{ first, last int }

// and is the days of a span that stand in a relation to a day.
func (s span) and(op, day int) span {
	switch op {
	case api.QLt:
		return span{s.first, min(s.last, day-1)}
	case api.QLe:
		return span{s.first, min(s.last, day)}
	case api.QGt:
		return span{max(s.first, day+1), s.last}
	case api.QGe:
		return span{max(s.first, day), s.last}
	}
	return span{max(s.first, day), min(s.last, day)}
}

// parts gives the parts of a query's condition, each once, in however many ways it is reached.
func parts(q api.Query) iter.Seq[api.Node] {
	return func(yield func(api.Node) bool) {
		reached := make([]bool, q.Where+1)
		reached[q.Where] = true
		for place := q.Where; place >= 0; place-- {
			n := q.Nodes[place]
			switch {
			case !reached[place]:
			case n.Op == api.QAnd:
				reached[n.Left], reached[n.Right] = true, true
			case !yield(n):
				return
			}
		}
	}
}
