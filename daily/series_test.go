package daily

import (
	"slices"
	"testing"

	"daybook/api"
)

// pair: something else to be summed, of which neither part may be above 9.
type pair struct{ in, out int }

func sumPairs(l []pair) (sum pair, e api.Errno) {
	for _, p := range l {
		sum.in += p.in
		sum.out += p.out
	}
	if sum.in > 9 || sum.out > 9 {
		return pair{}, api.ErrMany
	}
	return sum, api.OK
}

// TestSeriesOfAnything: days are kept alike, whatever is summed, and the sums' own error is told.
func TestSeriesOfAnything(t *testing.T) {
	var s series[pair]
	for _, x := range []struct {
		more []told[pair]
		want series[pair]
		e    api.Errno
	}{
		{nil, nil, api.OK},
		{[]told[pair]{{7, pair{1, 2}}, {5, pair{3, 0}}}, series[pair]{{told[pair]{5, pair{3, 0}}, pair{3, 0}}, {told[pair]{7, pair{1, 2}}, pair{4, 2}}}, api.OK},
		{[]told[pair]{{6, pair{6, 0}}}, nil, api.ErrMany},
		{[]told[pair]{{8, pair{10, 0}}, {8, pair{-10, 0}}}, series[pair]{{told[pair]{5, pair{3, 0}}, pair{3, 0}}, {told[pair]{7, pair{1, 2}}, pair{4, 2}}}, api.OK},
		{[]told[pair]{{6, pair{0, 1}}, {7, pair{-1, -2}}}, series[pair]{{told[pair]{5, pair{3, 0}}, pair{3, 0}}, {told[pair]{6, pair{0, 1}}, pair{3, 1}}}, api.OK},
		{[]told[pair]{{5, pair{-3, 0}}, {6, pair{0, -1}}}, nil, api.OK},
	} {
		before := slices.Clone(s)
		more := slices.Clone(x.more)
		next, e := s.with(x.more, sumPairs)
		if e != x.e || !slices.Equal(s, before) || !slices.Equal(x.more, more) {
			t.Fatalf("with(%v): %d, want %d; %v", x.more, e, x.e, s)
		}
		if e == api.OK {
			s = s.ending(next)
		}
		if e == api.OK && !slices.Equal(s, x.want) {
			t.Fatalf("with(%v): %v, want %v", x.more, s, x.want)
		}
	}
}

// TestSeriesKeepsItsBeginning: what lies ahead of all that is told is not worked out again.
func TestSeriesKeepsItsBeginning(t *testing.T) {
	var s series[pair]
	for day := range 9 {
		next, _ := s.with([]told[pair]{{day, pair{1, 0}}}, sumPairs)
		if next.stay != day || len(next.marks) != 1 {
			t.Errorf("day %d: %v", day, next)
		}
		s = s.ending(next)
	}
	next, _ := s.with([]told[pair]{{7, pair{0, 1}}, {6, pair{0, 1}}}, sumPairs)
	if next.stay != 6 || len(next.marks) != 3 {
		t.Errorf("%v", next)
	}
}
