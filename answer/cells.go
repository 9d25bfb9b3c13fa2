package answer

import (
	"cmp"

	"daybook/api"
	"daybook/money"
)

// What a node is worth at a row is a cell, a truth's Num being 1 or 0. A cell without a type is worth nothing: it is over.

func isOver(c api.Cell) bool { return c.Type == 0 }

// fitting is a cell, if it is so that it fits its type; else over.
func fitting(so bool, c api.Cell) api.Cell {
	if !so {
		return api.Cell{}
	}
	return c
}

// numberOf is the cell of a number or of money.
func numberOf(valueType int, n int64) api.Cell {
	return fitting(money.Check(n) == api.OK, api.Cell{Type: valueType, Num: n})
}

func textOf(s string) api.Cell { return api.Cell{Type: api.TText, Text: s} }

func truthOf(so bool) api.Cell {
	if so {
		return api.Cell{Type: api.TBool, Num: 1}
	}
	return api.Cell{Type: api.TBool}
}

func isTrue(c api.Cell) bool { return c.Num == 1 }

// compare is below 0, 0 or above it, as a is below, alike to or above b.
// A cell's type leaves one of the two parts zero, so that the other one decides.
func compare(a, b api.Cell) int {
	return cmp.Or(cmp.Compare(a.Num, b.Num), cmp.Compare(a.Text, b.Text))
}
