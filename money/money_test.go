package money

import (
	"math/big"
	"slices"
	"testing"

	"daybook/api"
)

func TestP1_1CheckRefusesTheLeastAlone(t *testing.T) {
	if e := Check(least); e != api.ErrAmount {
		t.Errorf("Check(least): %d", int(e))
	}
	for _, a := range edges() {
		if e := Check(a); e != api.OK {
			t.Errorf("Check(%d): %d", a, int(e))
		}
	}
}

func TestP1_2ExamplesOfTheDocument(t *testing.T) {
	for _, x := range []struct {
		name    string
		call    func(a, b int64) (int64, api.Errno)
		a, b    int64
		want    int64
		wantErr api.Errno
	}{
		{"Add", Add, most, 0, most, api.OK},
		{"Add", Add, most, 1, 0, api.ErrOverflow},
		{"Add", Add, least, 1, 0, api.ErrAmount},
		{"Mul", Mul, 3037000500, 3037000500, 0, api.ErrOverflow},
		{"Mul", Mul, -4294967296, 2147483648, 0, api.ErrOverflow},
		{"Mul", Mul, -4294967296, 2147483647, -9223372032559808512, api.OK},
	} {
		got, e := x.call(x.a, x.b)
		wantNumber(t, got, e, x.want, x.wantErr, x.name, x.a, x.b)
	}
	got, e := Neg(-most)
	wantNumber(t, got, e, most, api.OK, "Neg", -most)
}

// binary is the calls of two amounts with what they stand for.
func binary() []struct {
	name  string
	call  func(a, b int64) (int64, api.Errno)
	exact func(z, x, y *big.Int) *big.Int
} {
	return []struct {
		name  string
		call  func(a, b int64) (int64, api.Errno)
		exact func(z, x, y *big.Int) *big.Int
	}{
		{"Add", Add, (*big.Int).Add},
		{"Sub", Sub, (*big.Int).Sub},
		{"Mul", Mul, (*big.Int).Mul},
	}
}

func TestP1_2AddSubMulAreExactOrRefused(t *testing.T) {
	for _, x := range binary() {
		try := func(a, b int64) {
			want, wantErr := fit(x.exact(new(big.Int), large(a), large(b)))
			got, e := x.call(a, b)
			wantNumber(t, got, e, want, wantErr, x.name, a, b)
		}
		for _, a := range edges() {
			for _, b := range edges() {
				try(a, b)
			}
		}
		r := source()
		for range 20000 {
			try(anyAmount(r), anyAmount(r))
		}
	}
}

func TestP1_2TheLeastIsRefusedAheadOfAll(t *testing.T) {
	for _, x := range binary() {
		for _, a := range append(edges(), least) {
			got, e := x.call(a, least)
			wantNumber(t, got, e, 0, api.ErrAmount, x.name, a, least)
			got, e = x.call(least, a)
			wantNumber(t, got, e, 0, api.ErrAmount, x.name, least, a)
		}
	}
	got, e := Neg(least)
	wantNumber(t, got, e, 0, api.ErrAmount, "Neg", least)
}

func TestP1_2NegIsTheOpposite(t *testing.T) {
	for _, a := range edges() {
		got, e := Neg(a)
		wantNumber(t, got, e, -a, api.OK, "Neg", a)
	}
}

func TestP1_3SumOfLists(t *testing.T) {
	for _, x := range []struct {
		l       []int64
		want    int64
		wantErr api.Errno
	}{
		{[]int64{most, most, -most}, most, api.OK},
		{nil, 0, api.OK},
		{[]int64{}, 0, api.OK},
		{[]int64{most, 1}, 0, api.ErrOverflow},
		{[]int64{-most, -1}, 0, api.ErrOverflow},
		{[]int64{-most, -1, 1}, -most, api.OK},
		{[]int64{-most, -most, -2}, 0, api.ErrOverflow},
		{[]int64{most, most, 2}, 0, api.ErrOverflow},
		{[]int64{least}, 0, api.ErrAmount},
		{[]int64{most, most, least}, 0, api.ErrAmount},
		{[]int64{least, -most, -most}, 0, api.ErrAmount},
		{[]int64{-7}, -7, api.OK},
	} {
		got, e := Sum(x.l)
		wantNumber(t, got, e, x.want, x.wantErr, "Sum", x.l)
	}
}

func TestP1_3SumsThatGoFarAndComeBack(t *testing.T) {
	const n = 5000
	for _, sign := range []int64{1, -1} {
		l := slices.Repeat([]int64{sign * most}, n)
		got, e := Sum(l)
		wantNumber(t, got, e, 0, api.ErrOverflow, "Sum of many", sign)
		l = append(l, slices.Repeat([]int64{-sign * most}, n-1)...)
		got, e = Sum(l)
		wantNumber(t, got, e, sign*most, api.OK, "Sum there and back", sign)
	}
}

func TestP1_3SumIsExactOrRefused(t *testing.T) {
	r := source()
	for range 5000 {
		l := make([]int64, r.IntN(8))
		exact := new(big.Int)
		for i := range l {
			l[i] = anyAmount(r)
			exact.Add(exact, large(l[i]))
		}
		kept := slices.Clone(l)
		want, wantErr := fit(exact)
		got, e := Sum(l)
		wantNumber(t, got, e, want, wantErr, "Sum", l)
		if !slices.Equal(l, kept) {
			t.Fatalf("Sum changed its list %d to %d", kept, l)
		}
	}
}

func TestP1_9SumDoesNotHangOnTheOrder(t *testing.T) {
	r := source()
	for range 2000 {
		l := make([]int64, 1+r.IntN(6))
		for i := range l {
			l[i] = anyAmount(r)
		}
		want, wantErr := Sum(l)
		r.Shuffle(len(l), func(i, j int) { l[i], l[j] = l[j], l[i] })
		got, e := Sum(l)
		wantNumber(t, got, e, want, wantErr, "Sum shuffled", l)
	}
}

func TestP1_9SumOfTwoListsIsAddOfTheirSums(t *testing.T) {
	r := source()
	seen := [2]int{}
	for range 5000 {
		l := []int64{anyAmount(r), anyAmount(r)}
		m := []int64{anyAmount(r), anyAmount(r), anyAmount(r)}
		x, ex := Sum(l)
		y, ey := Sum(m)
		if ex != api.OK || ey != api.OK {
			continue
		}
		want, wantErr := Add(x, y)
		got, e := Sum(slices.Concat(l, m))
		wantNumber(t, got, e, want, wantErr, "Sum of both", l, m)
		if e == api.OK {
			seen[0]++
		} else {
			seen[1]++
		}
	}
	if seen[0] == 0 || seen[1] == 0 {
		t.Errorf("the lists show only one of the two outcomes: %d", seen)
	}
}

func TestP1_9AddAndSubAndNegUndoOneAnother(t *testing.T) {
	for _, a := range edges() {
		opposite, _ := Neg(a)
		got, e := Neg(opposite)
		wantNumber(t, got, e, a, api.OK, "Neg of Neg", a)
		for _, b := range edges() {
			sum, e := Add(a, b)
			other, otherErr := Add(b, a)
			wantNumber(t, other, otherErr, sum, e, "Add the other way", b, a)
			if e != api.OK {
				continue
			}
			got, e := Sub(sum, b)
			wantNumber(t, got, e, a, api.OK, "Sub of Add", a, b)
		}
	}
}
