package money

import (
	"math/big"
	"testing"

	"daybook/api"
)

// modelRatio rounds by whole numbers however large: the lower and the higher neighbour, and the choice between them.
func modelRatio(a, n, d int64, how int) (int64, api.Errno) {
	product := new(big.Int).Mul(large(a), large(n))
	low, rest := new(big.Int).DivMod(product, large(d), new(big.Int))
	if rest.Sign() == 0 {
		return fit(low)
	}
	high := new(big.Int).Add(low, large(1))
	inner, outer := low, high
	if product.Sign() < 0 {
		inner, outer = high, low
	}
	half := new(big.Int).Lsh(rest, 1).Cmp(large(d))
	nearest := low
	if half > 0 {
		nearest = high
	}
	halfOuter, halfEven := nearest, nearest
	if half == 0 {
		halfOuter, halfEven = outer, low
		if low.Bit(0) == 1 {
			halfEven = high
		}
	}
	return fit([]*big.Int{inner, outer, low, high, halfOuter, halfEven}[how])
}

func TestP1_4ExamplesOfTheDocument(t *testing.T) {
	for _, x := range []struct {
		a, n, d int64
		want    [6]int64
	}{
		{7, 1, 2, [6]int64{3, 4, 3, 4, 4, 4}},
		{-7, 1, 2, [6]int64{-3, -4, -4, -3, -4, -4}},
		{5, 1, 2, [6]int64{2, 3, 2, 3, 3, 2}},
		{-5, 1, 2, [6]int64{-2, -3, -3, -2, -3, -2}},
		{1, 1, 3, [6]int64{0, 1, 0, 1, 0, 0}},
		{-1, 1, 3, [6]int64{0, -1, -1, 0, 0, 0}},
		{2, 1, 3, [6]int64{0, 1, 0, 1, 1, 1}},
		{2, -1, 3, [6]int64{0, -1, -1, 0, -1, -1}},
		{-2, -1, 3, [6]int64{0, 1, 0, 1, 1, 1}},
		{0, -5, 3, [6]int64{}},
		{-6, 1, 3, [6]int64{-2, -2, -2, -2, -2, -2}},
		{most, most, most, [6]int64{most, most, most, most, most, most}},
		{-most, most, most, [6]int64{-most, -most, -most, -most, -most, -most}},
	} {
		for how, want := range x.want {
			got, e := Ratio(x.a, x.n, x.d, how)
			wantNumber(t, got, e, want, api.OK, "Ratio", x.a, x.n, x.d, how)
		}
	}
}

func TestP1_4WrongArguments(t *testing.T) {
	for _, x := range []struct {
		a, n, d int64
		how     int
		wantErr api.Errno
	}{
		{1, 1, 0, 0, api.ErrArg},
		{1, 1, -1, 0, api.ErrArg},
		{1, 1, least, 0, api.ErrArg},
		{1, 1, 1, -1, api.ErrArg},
		{1, 1, 1, 6, api.ErrArg},
		{1, 1, 1, 1 << 40, api.ErrArg},
		{1, 1, 1, -1 << 63, api.ErrArg},
		{least, 1, 0, 0, api.ErrArg},
		{1, least, 1, 6, api.ErrArg},
		{least, 1, 1, 0, api.ErrAmount},
		{1, least, 1, 0, api.ErrAmount},
		{least, least, 1, 0, api.ErrAmount},
		{0, least, most, 5, api.ErrAmount},
		{most, 3, 2, 0, api.ErrOverflow},
		{most, most, 1, 0, api.ErrOverflow},
		{-most, most, most - 1, 0, api.ErrOverflow},
	} {
		got, e := Ratio(x.a, x.n, x.d, x.how)
		wantNumber(t, got, e, 0, x.wantErr, "Ratio", x.a, x.n, x.d, x.how)
	}
}

// At MaxAmount and a half it hangs on the rounding alone whether it fits: 2^64 - 1 is 3 times third.
func TestP1_4RoundingDecidesWhetherItFits(t *testing.T) {
	const third = 6148914691236517205
	for how, wantErr := range [6]api.Errno{api.OK, api.ErrOverflow, api.OK, api.ErrOverflow, api.ErrOverflow, api.ErrOverflow} {
		want := int64(0)
		if wantErr == api.OK {
			want = most
		}
		got, e := Ratio(third, 3, 2, how)
		wantNumber(t, got, e, want, wantErr, "Ratio", third, 3, 2, how)
	}
	got, e := Ratio(-third, 3, 2, api.RoundCeil)
	wantNumber(t, got, e, -most, api.OK, "Ratio", -third, 3, 2, "ceil")
	got, e = Ratio(-third, 3, 2, api.RoundFloor)
	wantNumber(t, got, e, 0, api.ErrOverflow, "Ratio", -third, 3, 2, "floor")
}

func TestP1_4RatioIsExactOrRefused(t *testing.T) {
	try := func(a, n, d int64) {
		for how := range 6 {
			want, wantErr := modelRatio(a, n, d, how)
			got, e := Ratio(a, n, d, how)
			wantNumber(t, got, e, want, wantErr, "Ratio", a, n, d, how)
		}
	}
	for a := int64(-12); a <= 12; a++ {
		for n := int64(-4); n <= 4; n++ {
			for d := int64(1); d <= 12; d++ {
				try(a, n, d)
			}
		}
	}
	for _, a := range edges() {
		for _, n := range edges() {
			for _, d := range edges() {
				if d > 0 {
					try(a, n, d)
				}
			}
		}
	}
	r := source()
	for range 20000 {
		try(anyAmount(r), anyAmount(r), max(1, r.Int64()>>r.IntN(63)))
	}
}

// triples is small ratios, and such around the largest numbers, whose six roundings all fit.
func triples() [][3]int64 {
	var l [][3]int64
	for a := int64(-20); a <= 20; a++ {
		for d := int64(1); d <= 9; d++ {
			l = append(l, [3]int64{a, 1, d}, [3]int64{a, -3, d})
		}
	}
	for _, a := range edges() {
		l = append(l, [3]int64{a, 1, 2}, [3]int64{a, -1, 2}, [3]int64{a, most - 2, most - 1}, [3]int64{a, 3, 10})
	}
	return l
}

func sixWays(t *testing.T, x [3]int64) [6]int64 {
	t.Helper()
	var all [6]int64
	for how := range all {
		v, e := Ratio(x[0], x[1], x[2], how)
		if e != api.OK {
			t.Fatalf("Ratio%d, %d: error %d", x, how, int(e))
		}
		all[how] = v
	}
	return all
}

func TestP1_10HowTheSixWaysLie(t *testing.T) {
	halves, differ := 0, 0
	for _, x := range triples() {
		all := sixWays(t, x)
		for how, v := range all {
			if all[api.RoundFloor] > v || all[api.RoundCeil] < v {
				t.Errorf("Ratio%d: way %d lies outside floor and ceil: %d", x, how, all)
			}
		}
		product := new(big.Int).Mul(large(x[0]), large(x[1]))
		rest := new(big.Int).Mod(product, large(x[2]))
		gap := all[api.RoundUp] - all[api.RoundDown]
		if gap < -1 || gap > 1 || (gap == 0) != (rest.Sign() == 0) {
			t.Errorf("Ratio%d: down and up: %d", x, all)
		}
		half := rest.Lsh(rest, 1).Cmp(large(x[2])) == 0
		if half {
			halves++
		}
		if all[api.RoundHalf] != all[api.RoundEven] {
			differ++
			if !half {
				t.Errorf("Ratio%d is no half, but half and even differ: %d", x, all)
			}
		}
	}
	if differ == 0 || differ == halves {
		t.Errorf("half and even differ at %d of %d halves", differ, halves)
	}
}

func TestP1_10OppositeAmountsHaveOppositeRatios(t *testing.T) {
	mirror := [6]int{api.RoundDown, api.RoundUp, api.RoundCeil, api.RoundFloor, api.RoundHalf, api.RoundEven}
	for _, x := range triples() {
		straight := sixWays(t, x)
		opposite := sixWays(t, [3]int64{-x[0], x[1], x[2]})
		for how, v := range straight {
			if opposite[mirror[how]] != -v {
				t.Errorf("Ratio%d, %d: %d, of the opposite %d", x, how, v, opposite[mirror[how]])
			}
		}
	}
}

func TestP1_10RatioOfTheWholeIsTheAmount(t *testing.T) {
	for _, a := range edges() {
		for _, d := range edges() {
			for how := range 6 {
				if d > 0 {
					got, e := Ratio(a, d, d, how)
					wantNumber(t, got, e, a, api.OK, "Ratio", a, d, d, how)
				}
			}
		}
	}
}
