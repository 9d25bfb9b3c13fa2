package grammar

import (
	"strconv"
	"strings"

	"daybook/api"
	"daybook/day"
	"daybook/money"
)

// writer puts a query's tokens one behind the other.
type writer struct {
	nodes          []api.Node
	text           []byte
	tight          bool // no space stands ahead of the next token
	depth, deepest int
}

// written is the writer behind all tokens of a query that is well formed.
func written(q api.Query) *writer {
	w := &writer{nodes: q.Nodes, tight: true}
	if q.Where != none {
		w.put("where")
		w.expression(q.Where, orLevel)
	}
	putList(w, "by", q.By, w.field)
	putList(w, "show", q.Show, w.aggregate)
	putList(w, "order", q.Orders, w.order)
	if q.Limit != none {
		w.put("limit")
		w.put(strconv.Itoa(q.Limit))
	}
	return w
}

// putList writes a list behind its key; of an empty one nothing.
func putList[T any](w *writer, key string, l []T, one func(T)) {
	for i, x := range l {
		if i == 0 {
			w.put(key)
		} else {
			w.putTight(",")
		}
		one(x)
	}
}

func (w *writer) field(f int) { w.put(fieldNames()[f]) }

func (w *writer) aggregate(a api.Agg) {
	w.put(aggregateNames()[a.Kind])
	if a.Kind != api.ACount {
		w.tight = true
		w.bracketed(a.Of)
	}
}

func (w *writer) order(o api.Order) {
	w.put(strconv.Itoa(o.Column + 1))
	if o.Desc {
		w.put("desc")
	}
}

// expression writes that of the node at a place; in brackets, where the grammar takes no level below the least one.
func (w *writer) expression(place, least int) {
	n := w.nodes[place]
	switch level := levelOf(n.Op); {
	case level < least:
		w.bracketed(place)
	case level == atomLevel:
		w.put(leafText(n))
	case arity(n.Op) == 1:
		w.prefixed(n, level)
	default:
		w.pair(n, level)
	}
}

func (w *writer) prefixed(n api.Node, level int) {
	w.enter()
	w.put(operations[n.Op].sign)
	w.tight = level == signLevel
	w.expression(n.Left, level)
	w.leave()
}

func (w *writer) pair(n api.Node, level int) {
	left := level
	if level == relationLevel {
		left++ // relations do not go on
	}
	w.expression(n.Left, left)
	w.put(operations[n.Op].sign)
	w.expression(n.Right, level+1)
}

func (w *writer) bracketed(place int) {
	w.enter()
	w.put("(")
	w.tight = true
	w.expression(place, orLevel)
	w.putTight(")")
	w.leave()
}

// leafText is an atom's token.
func leafText(n api.Node) string {
	switch n.Op {
	case api.QField:
		return fieldNames()[n.Field]
	case api.QNum:
		s, _ := money.Print(n.Num, 0)
		return s
	case api.QDay:
		s, _ := day.Print(int(n.Num))
		return s
	case api.QBool:
		return truths()[n.Num]
	}
	const mark = string(quote)
	return mark + strings.ReplaceAll(n.Text, mark, mark+mark) + mark
}

func (w *writer) put(token string) {
	if !w.tight {
		w.text = append(w.text, ' ')
	}
	w.text = append(w.text, token...)
	w.tight = false
}

func (w *writer) putTight(token string) {
	w.tight = true
	w.put(token)
}

// enter goes down by the token that is put next; leave comes up again.
func (w *writer) enter() {
	w.depth++
	w.deepest = max(w.deepest, w.depth)
}

func (w *writer) leave() { w.depth-- }
