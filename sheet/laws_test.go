package sheet

import (
	"math/big"
	"math/rand/v2"
	"slices"
	"strings"
	"testing"

	"daybook/api"
	"daybook/money"
)

func reversed(l []api.Posting) []api.Posting {
	l = slices.Clone(l)
	slices.Reverse(l)
	return l
}

// smallRows: with amounts that never come near an end.
func smallRows(r *rand.Rand, accounts []api.Account, n, last int) []api.Posting {
	rows := anyRows(r, accounts, n, last)
	for i := range rows {
		rows[i].Amount = int64(r.IntN(2001) - 1000)
	}
	return rows
}

// recut: the same rows in another order, with rows of 0 between, and amounts cut in two.
func recut(r *rand.Rand, accounts []api.Account, rows []api.Posting, last int) []api.Posting {
	var l []api.Posting
	for _, x := range rows {
		switch r.IntN(3) {
		case 0:
			// Both parts are amounts, and of either sign.
			part := anyAmount(r)
			rest := new(big.Int).Sub(large(x.Amount), large(part))
			if !isAmount(rest) {
				part, rest = x.Amount, large(0)
			}
			l = append(l, posted(x.Account, x.Day, part), posted(x.Account, x.Day, rest.Int64()))
		case 1:
			l = append(l, x, posted(accounts[r.IntN(len(accounts))].Name, 1+r.IntN(last), 0))
		default:
			l = append(l, x)
		}
	}
	r.Shuffle(len(l), func(i, j int) { l[i], l[j] = l[j], l[i] })
	return l
}

func TestP17_9Order(t *testing.T) {
	r := source(10)
	same := 0
	for range 3000 {
		accounts := anyAccounts(r, 1+r.IntN(6))
		last := 1 + r.IntN(9)
		rows := anyRows(r, accounts, r.IntN(12), last)
		if r.IntN(2) == 0 {
			rows = smallRows(r, accounts, r.IntN(12), last)
		}
		other := recut(r, accounts, rows, last)
		from := 1 + r.IntN(last)
		to := from + r.IntN(last+1-from)
		one, e := Income(accounts, rows, from, to, 2)
		two, e2 := Income(accounts, other, from, to, 2)
		if one != two || e != e2 {
			t.Fatalf("%v, %v and %v:\n%s(%d)\n%s(%d)", accounts, rows, other, one, e, two, e2)
		}
		there, e := Position(accounts, rows, to, 2)
		again, e2 := Position(accounts, other, to, 2)
		if there != again || e != e2 {
			t.Fatalf("%v, %v and %v:\n%s(%d)\n%s(%d)", accounts, rows, other, there, e, again, e2)
		}
		if e == api.OK {
			same++
		}
	}
	if same < 1000 {
		t.Errorf("%d sheets alone", same)
	}
}

// amountAt: the amount beside a label, the n-th of that label.
func amountAt(t *testing.T, s, label string, n int) int64 {
	t.Helper()
	a, e := money.Parse(lineOf(t, s, label, n), 2)
	if e != api.OK {
		t.Fatalf("%q: %d", s, e)
	}
	return a
}

func TestP17_10DaysAddUp(t *testing.T) {
	r := source(11)
	seen := 0
	for range 3000 {
		accounts := anyAccounts(r, 1+r.IntN(6))
		rows := smallRows(r, accounts, r.IntN(15), 12)
		if r.IntN(4) == 0 {
			rows = anyRows(r, accounts, r.IntN(5), 12)
		}
		a := 1 + r.IntN(10)
		b := a + r.IntN(12-a)
		c := b + 1 + r.IntN(12-b)
		first, e1 := Income(accounts, rows, a, b, 2)
		second, e2 := Income(accounts, rows, b+1, c, 2)
		whole, e3 := Income(accounts, rows, a, c, 2)
		if e1 == api.OK && e2 == api.OK && e3 == api.OK {
			sum := new(big.Int).Add(large(amountAt(t, first, "Result", 0)), large(amountAt(t, second, "Result", 0)))
			if sum.Cmp(large(amountAt(t, whole, "Result", 0))) != 0 {
				t.Fatalf("%v, %v: from %d to %d to %d:\n%s%s%s", accounts, rows, a, b, c, first, second, whole)
			}
			seen++
		}
		came, e1 := Income(accounts, rows, api.MinDay, b, 2)
		there, e2 := Position(accounts, rows, b, 2)
		if e1 == api.OK && e2 == api.OK && lineOf(t, came, "Result", 0) != lineOf(t, there, "  Result", last(t, there)) {
			t.Fatalf("%v, %v: at %d:\n%s%s", accounts, rows, b, came, there)
		}
	}
	if seen < 1000 {
		t.Errorf("%d alone", seen)
	}
}

// last: the place of the last line with the label "  Result": accounts may be called so too.
func last(t *testing.T, s string) int {
	t.Helper()
	return strings.Count(s, "\n  Result ") - 1
}

func TestP17_10AccountCalledResult(t *testing.T) {
	accounts := []api.Account{account("Inc", api.Income), account("Result", api.Equity)}
	s, e := position(t, accounts, of("Result", -5, "Inc", -7), 9, 0)
	prints(t, s, e, "At 0001-01-09", "Asset", "Sum         0", "Liability", "Sum         0", "Equity", "  Result    5", "  Result    7", "Sum        12", "Total      12")
}

func TestP17_11BothSides(t *testing.T) {
	r := source(12)
	seen := 0
	for range 3000 {
		accounts := anyAccounts(r, 1+r.IntN(6))
		day := 1 + r.IntN(9)
		rows := smallRows(r, accounts, r.IntN(12), day)
		if r.IntN(4) == 0 {
			rows = anyRows(r, accounts, r.IntN(4), day)
		}
		sum := large(0)
		for _, x := range rows {
			sum.Sub(sum, large(x.Amount))
		}
		if !isAmount(sum) {
			continue
		}
		rows = append(rows, posted(accounts[r.IntN(len(accounts))].Name, day, sum.Int64()))
		// Rows of later days need not add up.
		rows = append(rows, posted(accounts[0].Name, day+1, 77))
		s, e := position(t, accounts, rows, day, 2)
		if e != api.OK {
			continue
		}
		seen++
		if lineOf(t, s, "Sum", 0) != lineOf(t, s, "Total", 0) {
			t.Fatalf("%v, %v at %d:\n%s", accounts, rows, day, s)
		}
	}
	if seen < 1000 {
		t.Errorf("%d alone", seen)
	}
	// Where they do not add up, the two sides differ by what they come to.
	s, _ := position(t, five(), of("As", 70, "Li", -50, "Eq", -10, "In", -30, "Ex", 15), 9, 2)
	if lineOf(t, s, "Sum", 0) != "0.70" || lineOf(t, s, "Total", 0) != "0.75" {
		t.Errorf("%s", s)
	}
}

// P17.7 at each call: is holds each text against the form.
func TestP17_7Bytes(t *testing.T) {
	for _, x := range []struct {
		text string
		good bool
	}{
		{"", true}, {"\n", true}, {"a\n", true}, {" a\n\nb c\n", true}, {"a", false}, {"a \n", false}, {" \n", false}, {"\t\n", false}, {"a\nb", false}, {"\x7f\n", false},
	} {
		if sheetForm.MatchString(x.text) != x.good {
			t.Fatalf("the form takes %q: %v", x.text, !x.good)
		}
	}
	r := source(13)
	for range 2000 {
		digits := r.IntN(7)
		accounts := anyAccounts(r, r.IntN(6))
		rows := anyRows(r, accounts, r.IntN(6), 9)
		name := anyName(r)
		trial(t, anyColumns(r, r.IntN(6)), digits)
		treeOf(t, accounts, anyBalances(r, accounts), digits)
		income(t, accounts, rows, 1+r.IntN(4), 4+r.IntN(6), digits)
		position(t, accounts, rows, 1+r.IntN(9), digits)
		statement(t, name, anyClaims(r, name, r.IntN(5)), anyAges(r), 1+r.IntN(lastDay), digits)
		table(t, anyTable(r), digits)
	}
}
