package money

import (
	"math"
	"math/big"
	"math/rand/v2"
	"testing"

	"daybook/api"
)

const (
	least = math.MinInt64
	most  = api.MaxAmount
)

// edges is amounts around every place where a step of the arithmetic could go wrong.
func edges() []int64 {
	positive := []int64{
		1, 2, 3, 4, 5, 7, 9, 10, 99, 100, 101, 999999, 1000000, 1000001,
		1<<31 - 1, 1 << 31, 1<<31 + 1, 1<<32 - 1, 1 << 32, 1<<32 + 1,
		3037000499, 3037000500, 1<<53 + 1,
		most / 3, most/3 + 1, most / 2, most/2 + 1, 1 << 62, 1<<62 + 1, most - 2, most - 1, most,
	}
	l := []int64{0}
	for _, a := range positive {
		l = append(l, a, -a)
	}
	return l
}

// source gives the same numbers in every run.
func source() *rand.Rand {
	return rand.New(rand.NewPCG(1, 11))
}

// anyAmount is an amount of any length: as often a short one as a long one.
func anyAmount(r *rand.Rand) int64 {
	a := r.Int64() >> r.IntN(63)
	if r.IntN(2) == 0 {
		return -a
	}
	return a
}

func large(a int64) *big.Int {
	return big.NewInt(a)
}

// fit is a whole number as the document answers it: itself, or ErrOverflow.
func fit(x *big.Int) (int64, api.Errno) {
	if x.CmpAbs(large(most)) > 0 {
		return 0, api.ErrOverflow
	}
	return x.Int64(), api.OK
}

func wantNumber(t *testing.T, got int64, e api.Errno, want int64, wantErr api.Errno, what string, args ...any) {
	t.Helper()
	if got != want || e != wantErr {
		t.Fatalf("%s%v: %d, %d; want %d, %d", what, args, got, int(e), want, int(wantErr))
	}
}
