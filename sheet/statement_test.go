package sheet

import (
	"strings"
	"testing"

	"daybook/api"
)

func TestP17_5Digits(t *testing.T) {
	open := []api.Claim{claim("i", "A", 5, 6, 1234567)}
	for _, digits := range goodOnes() {
		statement(t, "A", open, api.Ages{1, 2, 3, 4, 5}, 9, digits)
	}
	for _, digits := range badDigits() {
		s, e := statement(t, "a", open, api.Ages{-1}, 9, digits)
		refuses(t, api.ErrArg, s, e)
		s, e = statement(t, "A", nil, api.Ages{}, 9, digits)
		refuses(t, api.ErrArg, s, e)
	}
}

func TestP17_5Days(t *testing.T) {
	for _, bad := range badDays() {
		s, e := statement(t, "a", nil, api.Ages{}, bad, 2)
		refuses(t, api.ErrArg, s, e)
		for _, c := range []api.Claim{claim("i", "A", bad, 5, 1), claim("i", "A", 5, bad, 1), claim("i", "A", bad, bad, 1)} {
			s, e = statement(t, "A", []api.Claim{claim("i", "A", 1, 2, 3), c}, api.Ages{-1}, 5, 2)
			refuses(t, api.ErrArg, s, e)
		}
	}
	s, e := statement(t, "A", []api.Claim{claim("i", "A", 1, lastDay, 1), claim("j", "A", lastDay, 1, 1)}, api.Ages{2}, 1, 0)
	prints(t, s, e,
		"Statement of A at 0001-01-01",
		"Key  Date        Due         Open  Days",
		"i    0001-01-01  9999-12-31     1",
		"j    9999-12-31  0001-01-01     1",
		"Sum                             2",
		"Not due            2",
		"1 to 30 days       0",
		"31 to 60 days      0",
		"61 to 90 days      0",
		"More than 90 days  0",
		"Sum                2")
	s, e = statement(t, "A", []api.Claim{claim("i", "A", 1, lastDay, 1), claim("j", "A", lastDay, 1, 1)}, api.Ages{2}, lastDay, 0)
	if e != api.OK || !strings.Contains(s, "\nj    9999-12-31  0001-01-01     1  3652058\n") || !strings.Contains(s, "Open     Days\n") {
		t.Errorf("%s(%d)", s, e)
	}
}

// Days: 0, 1, below 0, and how wide the column is.
func TestP17_5Overdue(t *testing.T) {
	var open []api.Claim
	for _, due := range []int{100, 99, 101, 98, 90, 1, lastDay} {
		open = append(open, claim("k", "A", 50, due, 10))
	}
	s, e := statement(t, "A", open, api.Ages{}, 100, 1)
	if e != api.OK {
		t.Fatalf("%d", e)
	}
	for i, late := range []string{"", "1", "", "2", "10", "99", ""} {
		want := "k    0001-02-19  " + plainDay(open[i].Due) + "   1.0"
		if late != "" {
			want += "  " + strings.Repeat(" ", 4-len(late)) + late
		}
		if got := strings.Split(s, "\n")[i+2]; got != want {
			t.Errorf("due %d: %q, want %q", open[i].Due, got, want)
		}
	}
}

func TestP17_5NoneOpen(t *testing.T) {
	for _, open := range [][]api.Claim{nil, {}} {
		s, e := statement(t, "A:B", open, api.Ages{5, 4, 3, 2, 1}, 5, 0)
		prints(t, s, e,
			"Statement of A:B at 0001-01-05",
			"Key  Date  Due  Open  Days",
			"Sum                0",
			"Not due             5",
			"1 to 30 days        4",
			"31 to 60 days       3",
			"61 to 90 days       2",
			"More than 90 days   1",
			"Sum                15")
	}
}

// The two grids have widths of their own, the first line has none.
func TestP17_5Widths(t *testing.T) {
	s, e := statement(t, longestName, []api.Claim{claim(longestKey, longestName, 5, 6, 123456)}, api.Ages{}, 9, 0)
	prints(t, s, e,
		"Statement of "+longestName+" at 0001-01-09",
		"Key                       Date        Due           Open  Days",
		longestKey+"  0001-01-05  0001-01-06  123456     3",
		"Sum                                               123456",
		"Not due            0",
		"1 to 30 days       0",
		"31 to 60 days      0",
		"61 to 90 days      0",
		"More than 90 days  0",
		"Sum                0")
	s, e = statement(t, "A", []api.Claim{claim("i", "A", 5, 9, 6), claim("i", "A", 5, 9, 9995)}, api.Ages{most}, 9, 0)
	prints(t, s, e,
		"Statement of A at 0001-01-09",
		"Key  Date        Due          Open  Days",
		"i    0001-01-05  0001-01-09      6",
		"i    0001-01-05  0001-01-09   9995",
		"Sum                          10001",
		"Not due            9223372036854775807",
		"1 to 30 days                         0",
		"31 to 60 days                        0",
		"61 to 90 days                        0",
		"More than 90 days                    0",
		"Sum                9223372036854775807")
}

func TestP17_5Names(t *testing.T) {
	for _, name := range badNames() {
		s, e := statement(t, name, nil, api.Ages{}, 5, 2)
		refuses(t, api.ErrPath, s, e)
		s, e = statement(t, name, []api.Claim{claim("i", name, 1, 1, 1)}, api.Ages{-1}, 5, 2)
		refuses(t, api.ErrPath, s, e)
		if name != "A" {
			s, e = statement(t, "A", []api.Claim{claim("i", "A", 1, 1, 1), claim("i", name, 1, 1, 1)}, api.Ages{}, 5, 2)
			refuses(t, api.ErrMix, s, e)
		}
	}
	// One below, above, or beside it is another one.
	for _, other := range []string{"A:B:C", "A", "A:C", "A:B-", "A:b"} {
		s, e := statement(t, "A:B", []api.Claim{claim("", other, 0, 0, 0)}, api.Ages{}, 5, 2)
		refuses(t, api.ErrMix, s, e)
	}
}

func TestP17_5Keys(t *testing.T) {
	for _, key := range []string{"", " ", "a b", "a:b", "a\n", "\x00", "\xc3\x84", "\"", "#", longestKey + "x", "a/b", "a,"} {
		s, e := statement(t, "A", []api.Claim{claim(key, "A", 1, 1, 1)}, api.Ages{}, 5, 2)
		refuses(t, api.ErrArg, s, e)
	}
	for _, key := range []string{"a", "Z", "0", "-", "_", ".", longestKey} {
		if s, e := statement(t, "A", []api.Claim{claim(key, "A", 1, 1, 1), claim(key, "A", 1, 1, 1)}, api.Ages{}, 5, 2); e != api.OK {
			t.Errorf("%q: %s(%d)", key, s, e)
		}
	}
}

func TestP17_5Amounts(t *testing.T) {
	for _, n := range []int64{0, -1, -most, least} {
		s, e := statement(t, "A", []api.Claim{claim("i", "A", 1, 1, n)}, api.Ages{-1}, 5, 2)
		refuses(t, api.ErrArg, s, e)
	}
	for _, n := range []int64{-1, -most, least} {
		for i := range 5 {
			var ages api.Ages
			ages[(i+1)%5], ages[(i+2)%5] = most, most
			ages[i] = n
			s, e := statement(t, "A", []api.Claim{claim("i", "A", 1, 1, most), claim("i", "A", 1, 1, most)}, ages, 5, 2)
			refuses(t, api.ErrAmount, s, e)
		}
	}
	for _, x := range []struct {
		open []int64
		ages api.Ages
		why  api.Errno
	}{
		{[]int64{1}, api.Ages{}, api.OK}, {[]int64{most}, api.Ages{most}, api.OK}, {[]int64{most - 1, 1}, api.Ages{0, 1, 0, most - 1}, api.OK},
		{[]int64{most, 1}, api.Ages{}, api.ErrOverflow}, {[]int64{1, most}, api.Ages{}, api.ErrOverflow}, {[]int64{most, most, 2}, api.Ages{}, api.ErrOverflow}, {[]int64{most, most, 3}, api.Ages{}, api.ErrOverflow},
		{nil, api.Ages{most, 0, 0, 0, 1}, api.ErrOverflow}, {nil, api.Ages{0, 1, most}, api.ErrOverflow}, {nil, api.Ages{most, most, 2}, api.ErrOverflow}, {nil, api.Ages{most, most, 0, 0, 3}, api.ErrOverflow}, {nil, api.Ages{most, most, most, most, 4}, api.ErrOverflow},
		{nil, api.Ages{most / 5, most / 5, most / 5, most / 5, most/5 + 2}, api.OK}, {nil, api.Ages{most / 5, most / 5, most / 5, most / 5, most/5 + 3}, api.ErrOverflow},
	} {
		var open []api.Claim
		for _, n := range x.open {
			open = append(open, claim("i", "A", 1, 1, n))
		}
		if s, e := statement(t, "A", open, x.ages, 5, 2); e != x.why {
			t.Errorf("%v, %v: %s(%d)", x.open, x.ages, s, e)
		}
	}
}

// Each age stands at its own line, and open ones in their order.
func TestP17_5Places(t *testing.T) {
	open := []api.Claim{claim("z", "A", 9, 3, 7), claim("a", "A", 2, 4, 5), claim("z", "A", 9, 3, 7)}
	s, e := statement(t, "A", open, api.Ages{1, 20, 300, 4000, 50000}, 5, 0)
	prints(t, s, e,
		"Statement of A at 0001-01-05",
		"Key  Date        Due         Open  Days",
		"z    0001-01-09  0001-01-03     7     2",
		"a    0001-01-02  0001-01-04     5     1",
		"z    0001-01-09  0001-01-03     7     2",
		"Sum                            19",
		"Not due                1",
		"1 to 30 days          20",
		"31 to 60 days        300",
		"61 to 90 days       4000",
		"More than 90 days  50000",
		"Sum                54321")
}
