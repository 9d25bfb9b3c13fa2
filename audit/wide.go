package audit

import "math/bits"

// wide is a whole number of 128 bits, the upper half with the sign. Amounts have 64: no sum of as many as two texts can tell comes near its ends.
type wide struct {
	high int64
	low  uint64
}

func wideOf(n int64) wide { return wide{n >> 63, uint64(n)} }

func (a wide) plus(b wide) wide {
	low, carry := bits.Add64(a.low, b.low, 0)
	return wide{a.high + b.high + int64(carry), low}
}

func (a wide) minus(b wide) wide {
	low, borrow := bits.Sub64(a.low, b.low, 0)
	return wide{a.high - b.high - int64(borrow), low}
}

func (a wide) isBelowZero() bool { return a.high < 0 }

func (a wide) isAboveZero() bool { return !a.isBelowZero() && a != wide{} }

// narrow is the same number; false, if 64 bits do not hold it.
func (a wide) narrow() (int64, bool) {
	n := int64(a.low)
	return n, wideOf(n) == a
}
