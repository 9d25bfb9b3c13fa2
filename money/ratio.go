package money

import (
	"math/bits"

	"daybook/api"
)

// Ratio is a times n divided by d, rounded one of six ways.
func Ratio(a, n, d int64, how int) (int64, api.Errno) {
	away, known := rounding(how)
	if d < 1 || !known {
		return 0, api.ErrArg
	}
	if e := checkBoth(a, n); e != api.OK {
		return 0, e
	}
	q, e := divide(size(a), size(n), uint64(d))
	if e != api.OK {
		return 0, e
	}
	q.negative = opposed(a, n)
	if away(q) {
		q.whole++
	}
	return signed(q.whole, q.negative)
}

// quotient is a division's outcome before it is rounded, its numbers without the sign.
type quotient struct {
	whole, rest, divisor uint64
	negative             bool
}

// divide is a times n divided by d, of sizes. What is above MaxAmount here stays so in every rounding, since none takes from the size.
func divide(a, n, d uint64) (quotient, api.Errno) {
	high, low := bits.Mul64(a, n)
	if high >= d {
		return quotient{}, api.ErrOverflow
	}
	whole, rest := bits.Div64(high, low, d)
	if whole > api.MaxAmount {
		return quotient{}, api.ErrOverflow
	}
	return quotient{whole: whole, rest: rest, divisor: d}, api.OK
}

// rounding is a way's method by its number; it tells whether the size goes on by one, away from 0. False: there is no such way.
func rounding(how int) (func(quotient) bool, bool) {
	ways := []func(quotient) bool{
		api.RoundDown:  quotient.down,
		api.RoundUp:    quotient.up,
		api.RoundFloor: quotient.floor,
		api.RoundCeil:  quotient.ceil,
		api.RoundHalf:  quotient.half,
		api.RoundEven:  quotient.even,
	}
	if how < 0 || how >= len(ways) {
		return nil, false
	}
	return ways[how], true
}

func (q quotient) down() bool  { return false }
func (q quotient) up() bool    { return q.rest != 0 }
func (q quotient) floor() bool { return q.rest != 0 && q.negative }
func (q quotient) ceil() bool  { return q.rest != 0 && !q.negative }

// The rest is held against what is missing to the divisor: unlike its double, that can't wrap.
func (q quotient) half() bool { return q.rest >= q.divisor-q.rest }

func (q quotient) even() bool {
	missing := q.divisor - q.rest
	return q.rest > missing || q.rest == missing && q.whole%2 == 1
}
