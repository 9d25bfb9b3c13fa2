package sheet

import (
	"strings"
	"testing"

	"daybook/api"
)

func TestP17_1Digits(t *testing.T) {
	l := []api.Column{column("A", 1234567, 0), column("B", 0, 5)}
	for digits, want := range []string{"1234567", "123456.7", "12345.67", "1234.567", "123.4567", "12.34567", "1.234567"} {
		s, e := trial(t, l, digits)
		if e != api.OK || strings.Fields(s)[4] != want {
			t.Errorf("digits %d:\n%s(%d)", digits, s, e)
		}
	}
	for _, digits := range badDigits() {
		for _, x := range [][]api.Column{nil, l} {
			s, e := trial(t, x, digits)
			refuses(t, api.ErrArg, s, e)
		}
	}
}

func TestP17_1Names(t *testing.T) {
	for _, name := range badNames() {
		for _, x := range [][]api.Column{{column(name, 1, 2)}, {column("A", 1, 2), column(name, 0, 0)}, {column(name, -1, -1), column("A", -1, 0)}} {
			s, e := trial(t, x, 0)
			refuses(t, api.ErrPath, s, e)
		}
	}
	// In any order, and more than once.
	s, e := trial(t, []api.Column{column("B", 1, 0), column("A", 0, 2), column("B", 3, 4), column(longestName, 0, 0), column("A", 0, 2)}, 0)
	if e != api.OK || strings.Count(s, "\nB ") != 2 || strings.Count(s, "\nA ") != 2 || !strings.Contains(s, "\n"+longestName+"\n") {
		t.Errorf("%s(%d)", s, e)
	}
	s, e = trial(t, []api.Column{column("B", 1, 0), column("A", 0, 2), column("B", 3, 4)}, 0)
	prints(t, s, e,
		"Account  Debit  Credit",
		"B            1",
		"A                    2",
		"B            3       4",
		"Sum          4       6")
}

func TestP17_1Amounts(t *testing.T) {
	edges := []int64{0, 1, -1, most, -most, least, most - 1, least + 2}
	for _, debit := range edges {
		for _, credit := range edges {
			s, e := trial(t, []api.Column{column("A", debit, credit)}, 2)
			if (debit < 0 || credit < 0) != (e == api.ErrAmount) {
				t.Errorf("%d, %d:\n%s(%d)", debit, credit, s, e)
			}
			trial(t, []api.Column{column("A", debit, 0), column("B", credit, 0)}, 2)
			trial(t, []api.Column{column("A", 0, debit), column("B", 0, credit)}, 2)
			trial(t, []api.Column{column("A", debit, 1), column("B", 1, credit)}, 2)
		}
	}
	s, e := trial(t, []api.Column{column("A", 0, 0)}, 2)
	prints(t, s, e, "Account  Debit  Credit", "A", "Sum       0.00    0.00")
	s, e = trial(t, []api.Column{column("A", 1, 1)}, 2)
	prints(t, s, e, "Account  Debit  Credit", "A         0.01    0.01", "Sum       0.01    0.01")
}

func TestP17_1Sums(t *testing.T) {
	for _, x := range []struct {
		l   []int64
		why api.Errno
	}{
		{[]int64{most}, api.OK}, {[]int64{most, 0}, api.OK}, {[]int64{most - 1, 1}, api.OK}, {[]int64{most, 1}, api.ErrOverflow}, {[]int64{1, most}, api.ErrOverflow},
		{[]int64{most/2 + 1, most / 2}, api.OK}, {[]int64{most/2 + 1, most/2 + 1}, api.ErrOverflow},
		// Twice and four times round int64.
		{[]int64{most, most, 2}, api.ErrOverflow}, {[]int64{most, most, 3}, api.ErrOverflow}, {[]int64{most, most, most, most, 4}, api.ErrOverflow},
	} {
		var debits, credits, both []api.Column
		for _, n := range x.l {
			debits = append(debits, column("A", n, 0))
			credits = append(credits, column("A", 0, n))
			both = append(both, column("A", n, n))
		}
		for _, l := range [][]api.Column{debits, credits, both} {
			if _, e := trial(t, l, 0); e != x.why {
				t.Errorf("%v: %d, want %d", l, e, x.why)
			}
		}
	}
	// Each side by itself: together they may be more.
	s, e := trial(t, []api.Column{column("A", most, 0), column("B", 0, most)}, 6)
	prints(t, s, e,
		"Account                 Debit                Credit",
		"A        9223372036854.775807",
		"B                              9223372036854.775807",
		"Sum      9223372036854.775807  9223372036854.775807")
}

func TestP17_1Widths(t *testing.T) {
	// The widest is the title, a row's cell, the sum's.
	s, e := trial(t, []api.Column{column("Abcdefg", 1, 1)}, 0)
	prints(t, s, e, "Account  Debit  Credit", "Abcdefg      1       1", "Sum          1       1")
	s, e = trial(t, []api.Column{column("Abcdefgh", 12345, 123456)}, 0)
	prints(t, s, e, "Account   Debit  Credit", "Abcdefgh  12345  123456", "Sum       12345  123456")
	s, e = trial(t, []api.Column{column("A", 123456, 1234567)}, 0)
	prints(t, s, e, "Account   Debit   Credit", "A        123456  1234567", "Sum      123456  1234567")
	s, e = trial(t, []api.Column{column("A", 99999, 999999), column("B", 1, 1)}, 0)
	prints(t, s, e,
		"Account   Debit   Credit",
		"A         99999   999999",
		"B             1        1",
		"Sum      100000  1000000")
}

// P17.8: a line for each, a title and a sum; the name is what stands ahead of the first blank.
func TestP17_8TrialLines(t *testing.T) {
	r := source(2)
	for range 500 {
		l := anyColumns(r, r.IntN(12))
		s, e := trial(t, l, r.IntN(7))
		if e != api.OK {
			continue
		}
		lines := strings.Split(s, "\n")
		if len(lines) != len(l)+3 || lines[len(l)+2] != "" {
			t.Fatalf("%v: %d lines", l, len(lines)-1)
		}
		for i, c := range l {
			if name, _, _ := strings.Cut(lines[i+1], " "); name != c.Account {
				t.Fatalf("%v:\n%s", l, s)
			}
		}
	}
}
