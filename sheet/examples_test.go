package sheet

import (
	"strings"
	"testing"

	"daybook/api"
	"daybook/day"
)

// on: a day of its text.
func on(t *testing.T, s string) int {
	t.Helper()
	n, e := day.Parse(s)
	if e != api.OK {
		t.Fatalf("day.Parse(%s): %d", s, e)
	}
	return n
}

func TestExample1Trial(t *testing.T) {
	s, e := trial(t, []api.Column{column("Assets:Bank", 5500, 0), column("Income:Work", 0, 10000)}, 2)
	prints(t, s, e,
		"Account      Debit  Credit",
		"Assets:Bank  55.00",
		"Income:Work         100.00",
		"Sum          55.00  100.00")
	s, e = trial(t, nil, 0)
	prints(t, s, e, "Account  Debit  Credit", "Sum          0       0")
	s, e = trial(t, []api.Column{column("a", 0, 0)}, 2)
	refuses(t, api.ErrPath, s, e)
	s, e = trial(t, []api.Column{column("A", -1, 0)}, 2)
	refuses(t, api.ErrAmount, s, e)
	s, e = trial(t, []api.Column{column("A", most, 0), column("B", 1, 0)}, 0)
	refuses(t, api.ErrOverflow, s, e)
	s, e = trial(t, nil, 7)
	refuses(t, api.ErrArg, s, e)
}

func TestExample2Tree(t *testing.T) {
	accounts := []api.Account{account("A", api.Asset), account("A-x", api.Asset), account("A:B", api.Asset), account("A:B:C", api.Asset)}
	s, e := treeOf(t, accounts, []api.Balance{balance("A", 300), balance("A:B", -100), balance("A:B:C", 1)}, 0)
	prints(t, s, e,
		"A       300  100.0%",
		"  B    -100  -33.3%",
		"    C     1    0.3%",
		"A-x       0")
	s, e = treeOf(t, accounts, []api.Balance{balance("A", 1), balance("A:B", most)}, 0)
	prints(t, s, e,
		"A                        1  100.0%",
		"  B    9223372036854775807       *",
		"    C                    0    0.0%",
		"A-x                      0")
}

func TestExample3Income(t *testing.T) {
	accounts := []api.Account{account("Exp", api.Expense), account("Inc", api.Income), account("Inc:Work", api.Income)}
	rows := []api.Posting{posted("Inc:Work", on(t, "2024-01-10"), -10000), posted("Exp", on(t, "2024-01-31"), 2550), posted("Inc:Work", on(t, "2024-02-01"), -1)}
	s, e := income(t, accounts, rows, on(t, "2024-01-01"), on(t, "2024-01-31"), 2)
	prints(t, s, e,
		"From 2024-01-01 to 2024-01-31",
		"Income",
		"  Inc:Work  100.00",
		"Sum         100.00",
		"Expense",
		"  Exp        25.50",
		"Sum          25.50",
		"Result       74.50")
}

func TestExample4Position(t *testing.T) {
	accounts := []api.Account{account("As", api.Asset), account("Exp", api.Expense), account("Inc", api.Income), account("Li", api.Liability)}
	first := on(t, "2024-01-10")
	rows := []api.Posting{posted("As", first, 70), posted("Li", first, -50), posted("Inc", first, -30), posted("Exp", first+1, 10)}
	s, e := position(t, accounts, rows, on(t, "2024-01-31"), 0)
	prints(t, s, e,
		"At 2024-01-31",
		"Asset",
		"  As       70",
		"Sum        70",
		"Liability",
		"  Li       50",
		"Sum        50",
		"Equity",
		"  Result   20",
		"Sum        20",
		"Total      70")
	s, e = position(t, accounts, rows, first, 0)
	if e != api.OK || !strings.HasSuffix(s, "\n  Result   30\nSum        30\nTotal      80\n") {
		t.Errorf("at the first day:\n%s(%d)", s, e)
	}
}

func TestExample5Statement(t *testing.T) {
	open := []api.Claim{claim("i1", "Cust:Ann", on(t, "2024-01-10"), on(t, "2024-02-09"), 4000)}
	s, e := statement(t, "Cust:Ann", open, api.Ages{0, 0, 4000, 0, 0}, on(t, "2024-03-15"), 2)
	prints(t, s, e,
		"Statement of Cust:Ann at 2024-03-15",
		"Key  Date        Due          Open  Days",
		"i1   2024-01-10  2024-02-09  40.00    35",
		"Sum                          40.00",
		"Not due             0.00",
		"1 to 30 days        0.00",
		"31 to 60 days      40.00",
		"61 to 90 days       0.00",
		"More than 90 days   0.00",
		"Sum                40.00")
}

func TestExample6Table(t *testing.T) {
	types := []int{api.TText, api.TMoney, api.TNum}
	s, e := table(t, api.Table{Types: types, Rows: [][]api.Cell{{letters("ab"), cash(150), num(2)}, {letters("c"), cash(-5), num(10)}}}, 2)
	prints(t, s, e, "ab   1.50   2", "c   -0.05  10")
	s, e = table(t, api.Table{Types: types, Rows: [][]api.Cell{{letters("ab"), cash(150)}}}, 2)
	refuses(t, api.ErrTyping, s, e)
	s, e = table(t, api.Table{}, 0)
	prints(t, s, e)
	s, e = table(t, api.Table{Rows: [][]api.Cell{{}}}, 0)
	prints(t, s, e, "")
}
