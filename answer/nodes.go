package answer

import (
	"strings"

	"daybook/api"
	"daybook/chart"
	"daybook/day"
	"daybook/money"
)

// lookAt puts what each node of a query that means something is worth at a row into values, which has a place for each.
// It goes through the nodes in their order, as they may be nested deep and reached in very many ways.
func lookAt(row api.Posting, nodes []api.Node, values []api.Cell) {
	for place, n := range nodes {
		values[place] = worth(n, row, values)
	}
}

// worth is what a node is worth at a row, by the values of the nodes ahead of it.
func worth(n api.Node, row api.Posting, values []api.Cell) api.Cell {
	switch n.Op {
	case api.QField:
		return fieldAt(n.Field, row)
	case api.QNum:
		return numberOf(api.TNum, n.Num)
	case api.QText:
		return textOf(n.Text)
	case api.QDay:
		return api.Cell{Type: api.TDay, Num: n.Num}
	case api.QBool:
		return truthOf(n.Num == 1)
	case api.QNot, api.QNeg:
		return opposite(values[n.Left])
	case api.QAnd:
		return chosen(values[n.Left], values[n.Right], true)
	case api.QOr:
		return chosen(values[n.Left], values[n.Right], false)
	}
	return between(n.Op, values[n.Left], values[n.Right])
}

// opposite is what not and the sign - make of their part.
func opposite(c api.Cell) api.Cell {
	switch {
	case isOver(c):
		return c
	case c.Type == api.TBool:
		return truthOf(!isTrue(c))
	}
	return numberOf(c.Type, -c.Num)
}

// chosen is the right part, if the left one is what asks for it; else the left one.
func chosen(left, right api.Cell, asks bool) api.Cell {
	if isOver(left) || isTrue(left) != asks {
		return left
	}
	return right
}

// between is what the operations are worth that ask for both of their parts.
func between(op int, left, right api.Cell) api.Cell {
	if isOver(left) || isOver(right) {
		return api.Cell{}
	}
	switch op {
	case api.QAdd:
		return sum(left, right)
	case api.QSub:
		return difference(left, right)
	case api.QMul:
		return product(left, right)
	}
	return truthOf(holds(op, left, right))
}

// holds tells whether a relation is so.
func holds(op int, left, right api.Cell) bool {
	switch op {
	case api.QEq:
		return compare(left, right) == 0
	case api.QNe:
		return compare(left, right) != 0
	case api.QLt:
		return compare(left, right) < 0
	case api.QLe:
		return compare(left, right) <= 0
	case api.QGt:
		return compare(left, right) > 0
	case api.QGe:
		return compare(left, right) >= 0
	case api.QUnder:
		return chart.Under(left.Text, right.Text)
	}
	return strings.Contains(left.Text, right.Text)
}

func sum(left, right api.Cell) api.Cell {
	switch {
	case left.Type == api.TDay:
		return moved(left, right.Num)
	case right.Type == api.TDay:
		return moved(right, left.Num)
	}
	n, why := money.Add(left.Num, right.Num)
	return fitting(why == api.OK, api.Cell{Type: left.Type, Num: n})
}

func difference(left, right api.Cell) api.Cell {
	switch {
	case right.Type == api.TDay: // so the left one is a day too
		return numberOf(api.TNum, left.Num-right.Num)
	case left.Type == api.TDay:
		return moved(left, -right.Num)
	}
	n, why := money.Sub(left.Num, right.Num)
	return fitting(why == api.OK, api.Cell{Type: left.Type, Num: n})
}

func product(left, right api.Cell) api.Cell {
	valueType := left.Type
	if right.Type == api.TMoney {
		valueType = api.TMoney
	}
	n, why := money.Mul(left.Num, right.Num)
	return fitting(why == api.OK, api.Cell{Type: valueType, Num: n})
}

// moved is the day so many days on.
func moved(c api.Cell, days int64) api.Cell {
	n, why := day.Add(int(c.Num), int(days))
	return fitting(why == api.OK, api.Cell{Type: api.TDay, Num: int64(n)})
}
