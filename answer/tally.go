package answer

import (
	"math/bits"

	"daybook/api"
)

// tally is what an aggregate has come to over some rows: a count or a sum; or the least or greatest cell, without a type if there is no row.
type tally struct {
	sum wide
	end api.Cell
}

// take goes on by the value at one row more.
func (t *tally) take(kind int, c api.Cell) {
	switch kind {
	case api.ACount, api.ASum:
		t.sum = t.sum.plus(c.Num)
	case api.AMin:
		if isOver(t.end) || compare(c, t.end) < 0 {
			t.end = c
		}
	case api.AMax:
		if isOver(t.end) || compare(c, t.end) > 0 {
			t.end = c
		}
	}
}

// cell is what it comes to; over, if it is a sum that is no amount.
func (t tally) cell(a aggregate) api.Cell {
	if a.isEnd() {
		return t.end
	}
	n, is := t.sum.whole()
	return fitting(is, numberOf(a.valueType, n))
}

// wide is a whole number of 128 bits with a sign: no rows are enough to overflow it, whatever the sums on the way are.
type wide struct{ high, low uint64 }

func (w wide) plus(n int64) wide {
	low, carry := bits.Add64(w.low, uint64(n), 0)
	high, _ := bits.Add64(w.high, signWord(n), carry)
	return wide{high, low}
}

// whole is the number, if an int64 holds it.
func (w wide) whole() (int64, bool) {
	n := int64(w.low)
	return n, w.high == signWord(n)
}

// signWord is the word that stands above a number when it is written with two.
func signWord(n int64) uint64 { return uint64(n >> 63) }
