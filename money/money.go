// Package money is layer 1: amounts, exact, rounded and shared out; their texts. See shared/doc/01-money.md.
package money

import (
	"math"
	"math/bits"

	"daybook/api"
)

// Check tells whether it is an amount.
func Check(a int64) api.Errno {
	if a == math.MinInt64 {
		return api.ErrAmount
	}
	return api.OK
}

// Add adds.
func Add(a, b int64) (int64, api.Errno) {
	if e := checkBoth(a, b); e != api.OK {
		return 0, e
	}
	if b > 0 && a > api.MaxAmount-b || b < 0 && a < -api.MaxAmount-b {
		return 0, api.ErrOverflow
	}
	return a + b, api.OK
}

// Sub takes away.
func Sub(a, b int64) (int64, api.Errno) {
	if e := checkBoth(a, b); e != api.OK {
		return 0, e
	}
	return Add(a, -b)
}

// Neg is the opposite.
func Neg(a int64) (int64, api.Errno) {
	if e := Check(a); e != api.OK {
		return 0, e
	}
	return -a, api.OK
}

// Mul multiplies.
func Mul(a, n int64) (int64, api.Errno) {
	if e := checkBoth(a, n); e != api.OK {
		return 0, e
	}
	high, low := bits.Mul64(size(a), size(n))
	if high != 0 {
		return 0, api.ErrOverflow
	}
	return signed(low, opposed(a, n))
}

// Sum adds all, whatever the sums on the way are.
func Sum(l []int64) (int64, api.Errno) {
	// Two words, as one number of 128 bits with a sign: no list is long enough to overflow it.
	var high, low uint64
	for _, a := range l {
		if e := Check(a); e != api.OK {
			return 0, e
		}
		var carry uint64
		low, carry = bits.Add64(low, uint64(a), 0)
		high, _ = bits.Add64(high, signWord(a), carry)
	}
	sum := int64(low)
	if high != signWord(sum) || Check(sum) != api.OK {
		return 0, api.ErrOverflow
	}
	return sum, api.OK
}

// checkBoth is Check of two.
func checkBoth(a, b int64) api.Errno {
	if e := Check(a); e != api.OK {
		return e
	}
	return Check(b)
}

// signWord is the word that stands above a number when it is written with two.
func signWord(a int64) uint64 {
	return uint64(a >> 63)
}

// size is an amount without its sign.
func size(a int64) uint64 {
	if a < 0 {
		return uint64(-a)
	}
	return uint64(a)
}

// opposed tells whether one is below 0 and the other is not: then their product is not above 0.
func opposed(a, b int64) bool {
	return (a < 0) != (b < 0)
}

// signed is the amount of so many units, with a sign.
func signed(units uint64, negative bool) (int64, api.Errno) {
	if units > api.MaxAmount {
		return 0, api.ErrOverflow
	}
	if negative {
		return -int64(units), api.OK
	}
	return int64(units), api.OK
}
