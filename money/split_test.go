package money

import (
	"math/big"
	"math/rand/v2"
	"slices"
	"testing"

	"daybook/api"
)

// modelSplit gives the units that are left one by one, each to the first of the greatest remainders that has had none.
func modelSplit(total int64, weights []int64) []int64 {
	all := new(big.Int)
	for _, w := range weights {
		all.Add(all, large(w))
	}
	left := new(big.Int).Abs(large(total))
	t := new(big.Int).Set(left)
	parts := make([]int64, len(weights))
	rests := make([]*big.Int, len(weights))
	for i, w := range weights {
		part, rest := new(big.Int).QuoRem(new(big.Int).Mul(t, large(w)), all, new(big.Int))
		parts[i], rests[i] = part.Int64(), rest
		left.Sub(left, part)
	}
	for range left.Int64() {
		best := 0
		for i := range rests {
			if rests[i].Cmp(rests[best]) > 0 {
				best = i
			}
		}
		parts[best]++
		rests[best] = large(-1)
	}
	if total < 0 {
		for i := range parts {
			parts[i] = -parts[i]
		}
	}
	return parts
}

func mustSplit(t *testing.T, total int64, weights []int64) []int64 {
	t.Helper()
	parts, e := Split(total, weights)
	if e != api.OK || len(parts) != len(weights) {
		t.Fatalf("Split(%d, %d): %d, %d", total, weights, parts, int(e))
	}
	return parts
}

func TestP1_5SplitByExamples(t *testing.T) {
	for _, x := range []struct {
		total         int64
		weights, want []int64
	}{
		{100, []int64{1, 1, 1}, []int64{34, 33, 33}},
		{-100, []int64{1, 1, 1}, []int64{-34, -33, -33}},
		{5, []int64{3, 2, 2}, []int64{2, 2, 1}},
		{0, []int64{0, 1}, []int64{0, 0}},
		{3, []int64{0, 1, 1}, []int64{0, 2, 1}},
		{7, []int64{5}, []int64{7}},
		{-1, []int64{1, 2}, []int64{0, -1}},
		{most, []int64{most}, []int64{most}},
		{-most, []int64{most - 1, 1}, []int64{-(most - 1), -1}},
		{most, []int64{1, 1}, []int64{most/2 + 1, most / 2}},
		{1, []int64{0, 0, most}, []int64{0, 0, 1}},
	} {
		kept := slices.Clone(x.weights)
		if got := mustSplit(t, x.total, x.weights); !slices.Equal(got, x.want) {
			t.Errorf("Split(%d, %d): %d, want %d", x.total, x.weights, got, x.want)
		}
		if !slices.Equal(kept, x.weights) {
			t.Errorf("Split changed the weights %d to %d", kept, x.weights)
		}
	}
}

func TestP1_5WrongArguments(t *testing.T) {
	ones := func(n int) []int64 { return slices.Repeat([]int64{1}, n) }
	for _, x := range []struct {
		total   int64
		weights []int64
		wantErr api.Errno
	}{
		{1, nil, api.ErrShare},
		{1, []int64{}, api.ErrShare},
		{0, []int64{0, 0}, api.ErrShare},
		{1, []int64{0, 0}, api.ErrShare},
		{1, []int64{-1, 2}, api.ErrShare},
		{1, []int64{2, -1}, api.ErrShare},
		{1, []int64{5, least}, api.ErrShare},
		{1, []int64{most, 1}, api.ErrShare},
		{1, []int64{most, most, most}, api.ErrShare},
		{1, ones(api.MaxShares + 1), api.ErrShare},
		{least, []int64{1}, api.ErrAmount},
		{least, nil, api.ErrAmount},
		{least, []int64{-1}, api.ErrAmount},
	} {
		got, e := Split(x.total, x.weights)
		if e != x.wantErr || len(got) != 0 {
			t.Errorf("Split(%d, %d weights): %d, %d; want %d", x.total, len(x.weights), got, int(e), int(x.wantErr))
		}
	}
}

func TestP1_5AsManyWeightsAsMayBe(t *testing.T) {
	weights := make([]int64, api.MaxShares)
	for i := range weights {
		weights[i] = int64(i * i % 37)
	}
	for _, total := range []int64{0, 1, 999, 1000, 1001, -777, most, -most} {
		got := mustSplit(t, total, weights)
		if want := modelSplit(total, weights); !slices.Equal(got, want) {
			t.Errorf("Split(%d, 1000 weights) differs from the model", total)
		}
	}
}

// anyWeights is weights whose sum is an amount and not 0; now and then some of them are alike, or 0.
func anyWeights(r *rand.Rand) []int64 {
	weights := make([]int64, 1+r.IntN(7))
	limit := int64(most / 8)
	if r.IntN(2) == 0 {
		limit = 5
	}
	for i := range weights {
		weights[i] = r.Int64N(limit)
	}
	weights[r.IntN(len(weights))] = 1 + r.Int64N(limit)
	return weights
}

func TestP1_5SplitIsTheModels(t *testing.T) {
	r := source()
	for range 20000 {
		total, weights := anyAmount(r), anyWeights(r)
		got := mustSplit(t, total, weights)
		if want := modelSplit(total, weights); !slices.Equal(got, want) {
			t.Fatalf("Split(%d, %d): %d, want %d", total, weights, got, want)
		}
	}
}

func TestP1_5PartsAreNewMemory(t *testing.T) {
	weights := []int64{1, 2}
	first := mustSplit(t, 10, weights)
	first[0] = 77
	if second := mustSplit(t, 10, weights); !slices.Equal(second, []int64{3, 7}) || weights[0] != 1 {
		t.Errorf("Split behind a change of its answer: %d of %d", second, weights)
	}
}

// checkShares holds the parts of a total from 0 on against what is promised of each and of every two.
func checkShares(t *testing.T, total int64, weights, parts []int64) {
	t.Helper()
	all, _ := Sum(weights)
	for i, w := range weights {
		low, _ := Ratio(total, w, all, api.RoundDown)
		high, _ := Ratio(total, w, all, api.RoundUp)
		if parts[i] < low || parts[i] > high || w == 0 && parts[i] != 0 {
			t.Fatalf("Split(%d, %d): part %d is %d, not from %d to %d", total, weights, i, parts[i], low, high)
		}
		for j := range i {
			wrong := weights[j] < w && parts[j] > parts[i] || weights[j] >= w && parts[j] < parts[i]
			if wrong {
				t.Fatalf("Split(%d, %d): parts %d and %d are out of order: %d", total, weights, j, i, parts)
			}
		}
	}
}

func TestP1_11Shares(t *testing.T) {
	r := source()
	for range 5000 {
		total, weights := anyAmount(r)&most, anyWeights(r)
		parts := mustSplit(t, total, weights)
		if sum, e := Sum(parts); sum != total || e != api.OK {
			t.Fatalf("Split(%d, %d): %d add up to %d", total, weights, parts, sum)
		}
		checkShares(t, total, weights, parts)
		opposite := mustSplit(t, -total, weights)
		for i := range parts {
			if opposite[i] != -parts[i] {
				t.Fatalf("Split(%d, %d): %d, but of the opposite %d", total, weights, parts, opposite)
			}
		}
	}
}

func TestP1_11WeightsTimesANumberShareAlike(t *testing.T) {
	r := source()
	tried := 0
	for range 3000 {
		total, weights := anyAmount(r), anyWeights(r)
		all, _ := Sum(weights)
		k := 1 + r.Int64N(most/all)
		more := make([]int64, len(weights))
		for i, w := range weights {
			more[i] = w * k
		}
		if got, want := mustSplit(t, total, more), mustSplit(t, total, weights); !slices.Equal(got, want) {
			t.Fatalf("Split(%d, %d): %d; with weights times %d: %d", total, weights, want, k, got)
		}
		if k > 1 {
			tried++
		}
	}
	if tried == 0 {
		t.Error("no weights were multiplied")
	}
}
