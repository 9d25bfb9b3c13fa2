package sheet

import (
	"strings"
	"testing"

	"daybook/api"
)

// five: an account of each type, and one below each.
func five() []api.Account {
	return []api.Account{
		account("As", api.Asset), account("As:X", api.Asset), account("Eq", api.Equity), account("Eq:X", api.Equity), account("Ex", api.Expense), account("Ex:X", api.Expense),
		account("In", api.Income), account("In:X", api.Income), account("Li", api.Liability), account("Li:X", api.Liability),
	}
}

// of: rows of the day 5, each an account's name and an amount.
func of(pairs ...any) []api.Posting {
	var l []api.Posting
	for i := 0; i < len(pairs); i += 2 {
		amount, is := pairs[i+1].(int)
		if !is {
			panic("no amount")
		}
		l = append(l, posted(pairs[i].(string), 5, int64(amount)))
	}
	return l
}

// lineOf: the amount beside a label, the n-th of that label.
func lineOf(t *testing.T, s, label string, n int) string {
	t.Helper()
	for _, line := range strings.Split(s, "\n") {
		if rest, is := strings.CutPrefix(line, label+" "); is {
			if n--; n < 0 {
				return strings.TrimLeft(rest, " ")
			}
		}
	}
	t.Fatalf("no %q in\n%s", label, s)
	return ""
}

func TestP17_3Digits(t *testing.T) {
	rows := of("In", -1234567, "Ex", 5)
	for _, digits := range goodOnes() {
		income(t, five(), rows, 1, 9, digits)
		position(t, five(), rows, 9, digits)
	}
	s, e := income(t, five(), rows, 1, 9, 6)
	prints(t, s, e, "From 0001-01-01 to 0001-01-09", "Income", "  In     1.234567", "Sum      1.234567", "Expense", "  Ex     0.000005", "Sum      0.000005", "Result   1.234562")
	for _, digits := range badDigits() {
		s, e := income(t, accountsOf("a"), rows, 1, 9, digits)
		refuses(t, api.ErrArg, s, e)
		s, e = position(t, accountsOf("a"), rows, 9, digits)
		refuses(t, api.ErrArg, s, e)
	}
}

func TestP17_3Days(t *testing.T) {
	for _, bad := range badDays() {
		for _, x := range [][2]int{{bad, 5}, {5, bad}, {bad, bad}, {bad, lastDay}, {1, bad}} {
			s, e := income(t, nil, nil, x[0], x[1], 0)
			refuses(t, api.ErrArg, s, e)
		}
		s, e := position(t, nil, nil, bad, 0)
		refuses(t, api.ErrArg, s, e)
		// A row's day is looked at whether it would count or not.
		rows := append(of("As", 1), posted("As", bad, 0))
		s, e = income(t, five(), rows, 1, lastDay, 0)
		refuses(t, api.ErrDay, s, e)
		s, e = position(t, five(), rows, lastDay, 0)
		refuses(t, api.ErrDay, s, e)
	}
	for _, x := range [][2]int{{2, 1}, {lastDay, 1}, {lastDay, lastDay - 1}} {
		s, e := income(t, nil, nil, x[0], x[1], 0)
		refuses(t, api.ErrArg, s, e)
	}
	s, e := income(t, nil, nil, 1, 1, 0)
	prints(t, s, e, "From 0001-01-01 to 0001-01-01", "Income", "Sum      0", "Expense", "Sum      0", "Result   0")
	s, e = income(t, nil, nil, 1, lastDay, 0)
	prints(t, s, e, "From 0001-01-01 to 9999-12-31", "Income", "Sum      0", "Expense", "Sum      0", "Result   0")
	s, e = position(t, nil, nil, 1, 0)
	prints(t, s, e, "At 0001-01-01", "Asset", "Sum        0", "Liability", "Sum        0", "Equity", "  Result   0", "Sum        0", "Total      0")
	s, e = position(t, nil, nil, lastDay, 2)
	prints(t, s, e, "At 9999-12-31", "Asset", "Sum        0.00", "Liability", "Sum        0.00", "Equity", "  Result   0.00", "Sum        0.00", "Total      0.00")
}

// Which rows count: both ends do, what lies beside them does not.
func TestP17_3Counted(t *testing.T) {
	rows := []api.Posting{posted("In", 1, -1), posted("In", 9, -10), posted("In", 10, -100), posted("In", 11, -1000), posted("In", 12, -10000), posted("In", lastDay, -100000)}
	for _, x := range []struct {
		from, to int
		want     string
	}{
		{1, lastDay, "111111"}, {1, 1, "1"}, {2, 8, "0"}, {2, 9, "10"}, {9, 11, "1110"}, {10, 10, "100"}, {10, 11, "1100"}, {11, 12, "11000"}, {13, lastDay - 1, "0"}, {13, lastDay, "100000"}, {lastDay, lastDay, "100000"}, {1, 10, "111"},
	} {
		s, _ := income(t, five(), rows, x.from, x.to, 0)
		if got := lineOf(t, s, "Result", 0); got != x.want {
			t.Errorf("from %d to %d: %s, want %s", x.from, x.to, got, x.want)
		}
	}
	for day, want := range map[int]string{1: "1", 8: "1", 9: "11", 10: "111", 11: "1111", 12: "11111", lastDay - 1: "11111", lastDay: "111111"} {
		s, _ := position(t, five(), rows, day, 0)
		if got := lineOf(t, s, "  Result", 0); got != want {
			t.Errorf("at %d: %s, want %s", day, got, want)
		}
	}
}

func TestP17_3Rows(t *testing.T) {
	for _, name := range append(badNames(), "Z", "As:Y", "As:X:Y", "AS") {
		for _, day := range []int{3, 5, 0} {
			rows := append(of("As", 1), posted(name, day, least))
			s, e := income(t, five(), rows, 5, 5, 0)
			refuses(t, api.ErrUnknown, s, e)
			s, e = position(t, five(), rows, 4, 0)
			refuses(t, api.ErrUnknown, s, e)
		}
	}
	for _, day := range []int{3, 5, 7} {
		rows := append(of("As", 1), posted("As", day, least))
		s, e := income(t, five(), rows, 5, 5, 0)
		refuses(t, api.ErrAmount, s, e)
		s, e = position(t, five(), rows, 4, 0)
		refuses(t, api.ErrAmount, s, e)
	}
	s, e := income(t, nil, of("As", 1), 1, 9, 0)
	refuses(t, api.ErrUnknown, s, e)
	s, e = position(t, accountsOf("B", "A"), of("B", 1), 1, 0)
	refuses(t, api.ErrChart, s, e)
	s, e = income(t, accountsOf("B", "A"), nil, 1, 1, 0)
	refuses(t, api.ErrChart, s, e)
	// What a row says beside its account, day and amount is not looked at; a closed account is one, and one that is opened later.
	odd := []api.Account{{Name: "In", Type: api.Income, Opened: lastDay, Closed: true}}
	s, e = income(t, odd, []api.Posting{{Seq: -1, Line: -1, Kind: 99, Day: 5, Key: "\n", Account: "In", Amount: -7, Tag: "\x00", Memo: "\""}}, 1, 9, 0)
	prints(t, s, e, "From 0001-01-01 to 0001-01-09", "Income", "  In     7", "Sum      7", "Expense", "Sum      0", "Result   7")
}

// Blocks: signs, own amounts without those below, accounts of 0 left out, the names' order.
func TestP17_3Blocks(t *testing.T) {
	s, e := income(t, five(), of("In", -5, "In:X", 7, "Ex", 3, "Ex:X", -4, "As", 1, "Eq", 2, "Li", 3), 1, 9, 0)
	prints(t, s, e,
		"From 0001-01-01 to 0001-01-09",
		"Income",
		"  In      5",
		"  In:X   -7",
		"Sum      -2",
		"Expense",
		"  Ex      3",
		"  Ex:X   -4",
		"Sum      -1",
		"Result   -1")
	s, e = income(t, five(), of("In", -5, "In", 5, "In:X", -1, "Ex:X", 0, "Ex", 2), 1, 9, 0)
	prints(t, s, e,
		"From 0001-01-01 to 0001-01-09",
		"Income",
		"  In:X    1",
		"Sum       1",
		"Expense",
		"  Ex      2",
		"Sum       2",
		"Result   -1")
	// By rising name, and not in the tree's order: I-x is ahead of I:B.
	accounts := []api.Account{account("I", api.Income), account("I-x", api.Income), account("I:B", api.Income), account("X", api.Expense), account("Y", api.Expense)}
	s, e = income(t, accounts, of("Y", 1, "X", 2, "I:B", -3, "I-x", -4, "I", -5), 1, 9, 0)
	prints(t, s, e,
		"From 0001-01-01 to 0001-01-09",
		"Income",
		"  I       5",
		"  I-x     4",
		"  I:B     3",
		"Sum      12",
		"Expense",
		"  X       2",
		"  Y       1",
		"Sum       3",
		"Result    9")
}

func TestP17_4Blocks(t *testing.T) {
	s, e := position(t, five(), of("As", 100, "As:X", -20, "Li", -30, "Li:X", 4, "Eq", -5, "Eq:X", 6, "In", -7, "In:X", 8, "Ex", 9, "Ex:X", -70), 9, 0)
	prints(t, s, e,
		"At 0001-01-09",
		"Asset",
		"  As       100",
		"  As:X     -20",
		"Sum         80",
		"Liability",
		"  Li        30",
		"  Li:X      -4",
		"Sum         26",
		"Equity",
		"  Eq         5",
		"  Eq:X      -6",
		"  Result    60",
		"Sum         59",
		"Total       85")
	// Without one in a block, and with owns of 0.
	s, e = position(t, five(), of("As", 1, "As", -1, "Li", 0, "Eq:X", 3, "Eq:X", -3, "In", 2, "Ex", -2), 9, 0)
	prints(t, s, e, "At 0001-01-09", "Asset", "Sum        0", "Liability", "Sum        0", "Equity", "  Result   0", "Sum        0", "Total      0")
}

func TestP17_3Widths(t *testing.T) {
	// The widest is a title's, a name's; a sum's, a result's.
	accounts := []api.Account{account("E", api.Expense), account("I", api.Income), account("J", api.Income)}
	s, e := income(t, accounts, of("E", -9, "I", -99), 1, 9, 0)
	prints(t, s, e, "From 0001-01-01 to 0001-01-09", "Income", "  I       99", "Sum       99", "Expense", "  E       -9", "Sum       -9", "Result   108")
	s, e = income(t, accounts, of("I", -98, "J", -2), 1, 9, 0)
	prints(t, s, e, "From 0001-01-01 to 0001-01-09", "Income", "  I       98", "  J        2", "Sum      100", "Expense", "Sum        0", "Result   100")
	long := []api.Account{}
	for i := range strings.Split(longestName, ":") {
		long = append(long, account(longestName[:16+17*i], api.Income))
	}
	s, e = income(t, long, []api.Posting{posted(longestName, 5, -most)}, 1, 9, 0)
	wide := strings.Repeat(" ", 103-3)
	prints(t, s, e, "From 0001-01-01 to 0001-01-09", "Income", "  "+longestName+"  9223372036854775807", "Sum"+wide+"  9223372036854775807",
		"Expense", "Sum"+wide+strings.Repeat(" ", 18)+"  0", "Result"+wide[3:]+"  9223372036854775807")
}

// overs: rows, and whether Income and Position of them fit.
func TestP17_3Overflow(t *testing.T) {
	const fits, over = api.OK, api.ErrOverflow
	for _, x := range []struct {
		rows             []api.Posting
		income, position api.Errno
	}{
		{of("In", -most), fits, fits},
		{of("In", most), fits, fits},
		// A single own; in a position the owns of Income and Expense do not stand.
		{of("In", -most, "In", -1), over, over},
		{of("In", most, "In", 1), over, over},
		{of("In", most, "In", 1, "Ex", -1), over, fits},
		{of("In", -most, "In", -1, "Ex:X", 1), over, fits},
		{of("In", most, "In", most, "Ex", -most, "Ex", -most), over, fits},
		{of("Ex", most, "Ex", 1), over, over},
		{of("Ex", -most, "Ex", -1, "In", 1), over, fits},
		{of("As", most, "As", 1), fits, over},
		{of("As", -most, "As", -1), fits, over},
		{of("Li", most, "Li", 1), fits, over},
		{of("Eq", -most, "Eq", -1), fits, over},
		// Its own is no amount, but a multiple of 2^64; or just the least int64.
		{of("As", most, "As", most, "As", 2), fits, over},
		{of("In", -most, "In", -most, "In", -2), over, over},
		{of("In", -most, "In", -1), over, over},
		// A sum of several; one that passes int64 on the way alone.
		{of("In", -most, "In:X", -1), over, over},
		{of("In", -most, "In:X", 1), fits, fits},
		{of("In", -most, "In", -most, "In", most), fits, fits},
		{of("In", most, "In", most, "In", most, "In", -most, "In", -most, "In", -most), fits, fits},
		{of("Ex", most, "Ex:X", most), over, over},
		{of("As", most, "As:X", 1), fits, over},
		{of("As", most, "As:X", -1), fits, fits},
		{of("Li", -most, "Li:X", -1), fits, over},
		{of("As", most, "As", most, "As", -most, "As", -1), fits, fits},
		// The result.
		{of("In", -most, "Ex", -1), over, over},
		{of("In", most, "Ex", 1), over, over},
		{of("In", -most, "Ex", most), fits, fits},
		{of("In", -most, "Ex", 1), fits, fits},
		// The sum of Equity with the result, and not without it.
		{of("Eq", -most, "Eq:X", -most, "In", most), fits, fits},
		{of("Eq", -most, "Eq:X", -1), fits, over},
		{of("Eq", -most, "Eq:X", -1, "In", 1), fits, fits},
		{of("Eq", most, "Eq:X", most, "Ex", -most), fits, fits},
		{of("Eq", -most, "In", -1), fits, over},
		{of("Eq", -most, "Ex", 1), fits, fits},
		// The total.
		{of("Li", -most, "Eq", -1), fits, over},
		{of("Li", -most, "In", -1), fits, over},
		{of("Li", most, "Ex", 1), fits, over},
		{of("Li", -most, "Eq", most), fits, fits},
		{of("Li", -most, "Eq", -1, "Ex", 1), fits, fits},
		{of("As", most, "Li", -most), fits, fits},
	} {
		for _, rows := range [][]api.Posting{x.rows, reversed(x.rows)} {
			if _, e := income(t, five(), rows, 5, 5, 2); e != x.income {
				t.Errorf("Income of %v: %d, want %d", rows, e, x.income)
			}
			if _, e := position(t, five(), rows, 5, 2); e != x.position {
				t.Errorf("Position of %v: %d, want %d", rows, e, x.position)
			}
			// Rows that do not count do not overflow.
			if s, e := income(t, five(), rows, 6, 9, 2); e != api.OK || lineOf(t, s, "Result", 0) != "0.00" {
				t.Errorf("%v count where they do not: %d", rows, e)
			}
			if s, e := position(t, five(), rows, 4, 2); e != api.OK || lineOf(t, s, "Total", 0) != "0.00" {
				t.Errorf("%v count where they do not: %d", rows, e)
			}
		}
	}
}

func TestP17_3Edges(t *testing.T) {
	for _, n := range []int{0, 1, -1, most, -most} {
		for _, name := range []string{"As", "Eq:X", "Ex", "In:X", "Li"} {
			if _, e := income(t, five(), of(name, n), 1, 9, 3); e != api.OK {
				t.Errorf("Income, %s %d: %d", name, n, e)
			}
			if _, e := position(t, five(), of(name, n), 9, 3); e != api.OK {
				t.Errorf("Position, %s %d: %d", name, n, e)
			}
		}
	}
	s, e := position(t, five(), of("As", most, "Li", most, "In", -most), 9, 0)
	prints(t, s, e,
		"At 0001-01-09",
		"Asset",
		"  As        9223372036854775807",
		"Sum         9223372036854775807",
		"Liability",
		"  Li       -9223372036854775807",
		"Sum        -9223372036854775807",
		"Equity",
		"  Result    9223372036854775807",
		"Sum         9223372036854775807",
		"Total                         0")
}
