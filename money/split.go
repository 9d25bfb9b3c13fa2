package money

import (
	"cmp"
	"math/bits"
	"slices"

	"daybook/api"
)

// Split shares a total out by weights, to the last unit.
func Split(total int64, weights []int64) ([]int64, api.Errno) {
	if e := Check(total); e != api.OK {
		return nil, e
	}
	all, e := weigh(weights)
	if e != api.OK {
		return nil, e
	}
	shares, left := floorShares(size(total), weights, all)
	slices.SortStableFunc(shares, func(x, y share) int { return cmp.Compare(y.rest, x.rest) })
	parts := make([]int64, len(weights))
	for i, s := range shares {
		part := s.part
		if uint64(i) < left {
			part++
		}
		if total < 0 {
			part = -part
		}
		parts[s.place] = part
	}
	return parts, api.OK
}

// weigh is the weights' sum, if one can share by them.
func weigh(weights []int64) (int64, api.Errno) {
	if len(weights) == 0 || len(weights) > api.MaxShares {
		return 0, api.ErrShare
	}
	for _, w := range weights {
		if w < 0 {
			return 0, api.ErrShare
		}
	}
	all, e := Sum(weights)
	if e != api.OK || all == 0 {
		return 0, api.ErrShare
	}
	return all, api.OK
}

// share is the part of the weight at a place, rounded down, with the rest of its division.
type share struct {
	place int
	part  int64
	rest  uint64
}

// floorShares is all shares rounded down, in the weights' order, and how many units they leave.
func floorShares(total uint64, weights []int64, all int64) ([]share, uint64) {
	shares := make([]share, len(weights))
	left := total
	for i, w := range weights {
		// No weight is above the sum of all, so the division fits one word and a part is at most the total.
		high, low := bits.Mul64(total, uint64(w))
		part, rest := bits.Div64(high, low, uint64(all))
		shares[i] = share{place: i, part: int64(part), rest: rest}
		left -= part
	}
	return shares, left
}
