package money

import (
	"strings"
	"testing"

	"daybook/api"
)

func TestP1_6Print(t *testing.T) {
	for _, x := range []struct {
		a       int64
		digits  int
		want    string
		wantErr api.Errno
	}{
		{-5, 2, "-0.05", api.OK},
		{1234, 0, "1234", api.OK},
		{0, 3, "0.000", api.OK},
		{most, 6, "9223372036854.775807", api.OK},
		{-most, 6, "-9223372036854.775807", api.OK},
		{most, 0, "9223372036854775807", api.OK},
		{-most, 0, "-9223372036854775807", api.OK},
		{0, 0, "0", api.OK},
		{-1, 0, "-1", api.OK},
		{0, 6, "0.000000", api.OK},
		{-1, 6, "-0.000001", api.OK},
		{999999, 6, "0.999999", api.OK},
		{1000000, 6, "1.000000", api.OK},
		{10, 1, "1.0", api.OK},
		{-100, 2, "-1.00", api.OK},
		{5, 7, "", api.ErrArg},
		{5, -1, "", api.ErrArg},
		{5, 1 << 62, "", api.ErrArg},
		{least, 7, "", api.ErrArg},
		{least, 0, "", api.ErrAmount},
		{least, 6, "", api.ErrAmount},
	} {
		if got, e := Print(x.a, x.digits); got != x.want || e != x.wantErr {
			t.Errorf("Print(%d, %d): %q, %d; want %q, %d", x.a, x.digits, got, int(e), x.want, int(x.wantErr))
		}
	}
}

func TestP1_7ParseTakes(t *testing.T) {
	for _, x := range []struct {
		text   string
		digits int
		want   int64
	}{
		{"12.5", 2, 1250},
		{"-007", 2, -700},
		{"92233720368547758.07", 2, most},
		{"-92233720368547758.07", 2, -most},
		{"9223372036854.775807", 6, most},
		{"9223372036854775807", 0, most},
		{"-9223372036854775807", 0, -most},
		{"-0", 0, 0},
		{"-0.00", 2, 0},
		{"0", 6, 0},
		{"0.000001", 6, 1},
		{"1.1", 6, 1100000},
		{"00.10", 2, 10},
		{strings.Repeat("0", 39) + "1", 0, 1},
		{"-" + strings.Repeat("0", 38) + "1", 0, -1},
		{strings.Repeat("0", 36) + "1.25", 2, 125},
	} {
		got, e := Parse(x.text, x.digits)
		wantNumber(t, got, e, x.want, api.OK, "Parse", x.text, x.digits)
	}
}

func TestP1_7ParseRefuses(t *testing.T) {
	for _, text := range []string{
		"12.", ".5", "1.234", "+1", "", "-", "--1", "-.5", ".", "-.", "1..2", "1.2.3", "1.-2", "1-", "- 1", " 1", "1 ", "1\n", "1,5",
		"1e3", "0x1", "1_000", "abc", "1.2a", "1.a", "a.1", "1.+2", "1\x00", "\xff", "٣", "1.٣",
		strings.Repeat("0", 40) + "1", strings.Repeat("9", 41), strings.Repeat("0", 37) + "1.25",
		// Beyond the largest amount too, but no amount's text comes first.
		"99999999999999999999.999", "99999999999999999999x",
	} {
		got, e := Parse(text, 2)
		wantNumber(t, got, e, 0, api.ErrMoney, "Parse", text, 2)
	}
	for _, text := range []string{"1.0", "1.", "0.0", ".", ".0"} {
		got, e := Parse(text, 0)
		wantNumber(t, got, e, 0, api.ErrMoney, "Parse", text, 0)
	}
	got, e := Parse("0.0000000", 6)
	wantNumber(t, got, e, 0, api.ErrMoney, "Parse", "0.0000000", 6)
}

func TestP1_7ParseOverflows(t *testing.T) {
	for _, x := range []struct {
		text   string
		digits int
	}{
		{"92233720368547758.08", 2},
		{"-92233720368547758.08", 2},
		{"92233720368547758.1", 2},
		{"92233720368547759", 2},
		{"9223372036854775808", 0},
		{"-9223372036854775808", 0},
		{"18446744073709551616", 0},
		{"18446744073709551617", 0},
		{"9223372036854775807", 1},
		{"9223372036855", 6},
		{strings.Repeat("9", 40), 0},
		{strings.Repeat("9", 40), 6},
	} {
		got, e := Parse(x.text, x.digits)
		wantNumber(t, got, e, 0, api.ErrOverflow, "Parse", x.text, x.digits)
	}
}

func TestP1_7DigitsAreLookedAtFirst(t *testing.T) {
	for _, digits := range []int{-1, 7, -1 << 63, 1<<63 - 1} {
		for _, text := range []string{"1", "", "x", strings.Repeat("9", 40), strings.Repeat("9", 41)} {
			got, e := Parse(text, digits)
			wantNumber(t, got, e, 0, api.ErrArg, "Parse", text, digits)
		}
	}
}

func TestP1_8ThereAndBack(t *testing.T) {
	r := source()
	amounts := edges()
	for range 3000 {
		amounts = append(amounts, anyAmount(r))
	}
	for digits := range api.MaxDigits + 1 {
		printed := map[string]int64{}
		for _, a := range amounts {
			text, e := Print(a, digits)
			if e != api.OK {
				t.Fatalf("Print(%d, %d): %d", a, digits, int(e))
			}
			if other, was := printed[text]; was && other != a {
				t.Fatalf("Print(.., %d) of %d and %d is %q", digits, a, other, text)
			}
			printed[text] = a
			got, e := Parse(text, digits)
			wantNumber(t, got, e, a, api.OK, "Parse of Print", text, digits)
		}
	}
}
