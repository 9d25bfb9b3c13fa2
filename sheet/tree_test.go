package sheet

import (
	"slices"
	"strings"
	"testing"

	"daybook/api"
)

// accountsOf: accounts of names, all of one type.
func accountsOf(names ...string) []api.Account {
	var l []api.Account
	for _, name := range names {
		l = append(l, account(name, api.Asset))
	}
	return l
}

func TestP17_2Digits(t *testing.T) {
	for digits, want := range []string{"-5", "-0.5", "-0.05", "-0.005", "-0.0005", "-0.00005", "-0.000005"} {
		s, e := treeOf(t, accountsOf("A"), []api.Balance{balance("A", -5)}, digits)
		prints(t, s, e, "A  "+want+"  100.0%")
	}
	for _, digits := range badDigits() {
		s, e := treeOf(t, nil, nil, digits)
		refuses(t, api.ErrArg, s, e)
		s, e = treeOf(t, accountsOf("a"), []api.Balance{balance("", least)}, digits)
		refuses(t, api.ErrArg, s, e)
	}
}

func TestP17_2NoElements(t *testing.T) {
	s, e := treeOf(t, nil, nil, 2)
	prints(t, s, e)
	s, e = treeOf(t, []api.Account{}, []api.Balance{}, 2)
	prints(t, s, e)
	s, e = treeOf(t, accountsOf("A", "A:B"), nil, 2)
	prints(t, s, e, "A    0.00", "  B  0.00")
	s, e = treeOf(t, nil, []api.Balance{balance("A", 1)}, 2)
	refuses(t, api.ErrUnknown, s, e)
}

// The tree's order where it is not the names'.
func TestP17_2Order(t *testing.T) {
	s, e := treeOf(t, accountsOf("A", "A-x", "A-x:Z", "A0", "A:B", "A:B-1", "A:B-1:C", "A:B:A", "A:B:C", "A:Ba", "A:C", "AB", "Aa", "B", "B:A"), nil, 0)
	prints(t, s, e,
		"A      0",
		"  B    0",
		"    A  0",
		"    C  0",
		"  B-1  0",
		"    C  0",
		"  Ba   0",
		"  C    0",
		"A-x    0",
		"  Z    0",
		"A0     0",
		"AB     0",
		"Aa     0",
		"B      0",
		"  A    0")
	s, e = treeOf(t, accountsOf("A", "A:B", "A:B:C", "A:B:C:D", "A:B:C:D:E", "A:B:C:D:E:"+longestPart), nil, 0)
	prints(t, s, e,
		"A                           0",
		"  B                         0",
		"    C                       0",
		"      D                     0",
		"        E                   0",
		"          "+longestPart+"  0")
}

func TestP17_2Charts(t *testing.T) {
	many := []api.Account{}
	for i := range 101 {
		many = append(many, account("A"+string(rune('A'+i/26))+string(rune('a'+i%26)), 1+i%5))
	}
	if s, e := treeOf(t, many[:100], nil, 0); e != api.OK || strings.Count(s, "\n") != 100 {
		t.Errorf("a hundred: %q (%d)", s, e)
	}
	closed := []api.Account{{Name: "A", Type: 3, Opened: lastDay, Closed: true}, {Name: "A:B", Type: 3, Opened: lastDay, Closed: true}}
	s, e := treeOf(t, closed, []api.Balance{balance("A:B", 2), balance("A", 4)}, 0)
	prints(t, s, e, "A    4  100.0%", "  B  2   50.0%")
	for _, bad := range [][]api.Account{
		many, accountsOf("a"), accountsOf("B", "A"), accountsOf("A", "A"), accountsOf("A:B"), {account("A", 0)}, {account("A", 6)},
		{account("A", 1), account("A:B", 2)}, {{Name: "A", Type: 1}}, {{Name: "A", Type: 1, Opened: lastDay + 1}},
	} {
		s, e := treeOf(t, bad, nil, 0)
		refuses(t, api.ErrChart, s, e)
		s, e = treeOf(t, bad, []api.Balance{balance("?", least)}, 0)
		refuses(t, api.ErrChart, s, e)
	}
}

func TestP17_2Balances(t *testing.T) {
	accounts := accountsOf("A", "A:B", "B")
	for _, name := range append(badNames(), "C", "A:C", "A:B:C", "A-x", "A:B ") {
		s, e := treeOf(t, accounts, []api.Balance{balance("A", 1), balance(name, least)}, 0)
		refuses(t, api.ErrUnknown, s, e)
		s, e = treeOf(t, accounts, []api.Balance{balance(name, 1), balance(name, 1)}, 0)
		refuses(t, api.ErrUnknown, s, e)
	}
	for _, l := range [][]api.Balance{
		{balance("A", 1), balance("A", 1)}, {balance("A", 0), balance("A", 0)}, {balance("A", 1), balance("A:B", 1), balance("A", least)}, {balance("A", 1), balance("B", 2), balance("A:B", 3), balance("B", 2)},
	} {
		s, e := treeOf(t, accounts, l, 0)
		refuses(t, api.ErrTwice, s, e)
	}
	// Own is not looked at, nor whether a Rollup is that of all below.
	s, e := treeOf(t, accounts, []api.Balance{{Account: "B", Own: least, Rollup: -4}, {Account: "A:B", Own: 7, Rollup: 9}, {Account: "A", Own: -1, Rollup: 3}}, 0)
	prints(t, s, e, "A     3  100.0%", "  B   9  300.0%", "B    -4  100.0%")
	s, e = treeOf(t, accounts, []api.Balance{{Account: "A", Own: 5, Rollup: least}}, 0)
	refuses(t, api.ErrAmount, s, e)
}

// shares: the share of A:B, at a Rollup of A and its own.
func shares(t *testing.T, whole, part int64) string {
	t.Helper()
	s, e := treeOf(t, accountsOf("A", "A:B"), []api.Balance{balance("A:B", part), balance("A", whole)}, 0)
	lines := strings.Split(s, "\n")
	if e != api.OK || len(lines) != 3 {
		t.Fatalf("%d of %d: %s(%d)", part, whole, s, e)
	}
	top := strings.Fields(lines[0])
	if whole != 0 && top[2] != "100.0%" || whole == 0 && len(top) != 2 {
		t.Errorf("a root's own share: %q", lines[0])
	}
	if cells := strings.Fields(lines[1]); len(cells) == 3 {
		return cells[2]
	}
	return ""
}

func TestP17_2Shares(t *testing.T) {
	for _, x := range []struct {
		whole, part int64
		want        string
	}{
		{0, 0, ""}, {0, 1, ""}, {0, -1, ""}, {0, most, ""}, {0, -most, ""},
		{1, 0, "0.0%"}, {1, 1, "100.0%"}, {1, -1, "-100.0%"}, {-1, 0, "0.0%"}, {-1, 1, "-100.0%"}, {-1, -1, "100.0%"},
		{1, 5, "500.0%"}, {-1, 5, "-500.0%"}, {-1, -5, "500.0%"},
		{most, most, "100.0%"}, {most, -most, "-100.0%"}, {-most, -most, "100.0%"}, {-most, most, "-100.0%"}, {most, 1, "0.0%"}, {most, -1, "0.0%"}, {-most, 1, "0.0%"},
		{most, most / 2, "50.0%"}, {most, most / 3, "33.3%"}, {-most, most / 3, "-33.3%"},
		// Halves, of both signs, and what lies beside them.
		{2000, 1, "0.1%"}, {2000, -1, "-0.1%"}, {-2000, 1, "-0.1%"}, {-2000, -1, "0.1%"}, {2000, 3, "0.2%"}, {2000, -3, "-0.2%"}, {-2000, 3, "-0.2%"}, {-2000, 5, "-0.3%"}, {2000, 5, "0.3%"},
		{2001, 1, "0.0%"}, {2001, -1, "0.0%"}, {-2001, 1, "0.0%"}, {1999, 1, "0.1%"}, {-1999, 1, "-0.1%"}, {16, 1, "6.3%"}, {16, -1, "-6.3%"}, {80, 1, "1.3%"}, {80, 3, "3.8%"},
		{3, 1, "33.3%"}, {3, 2, "66.7%"}, {3, -2, "-66.7%"}, {-3, 2, "-66.7%"}, {7, 22, "314.3%"},
		// What is no amount, and what is just one: 1000 times the part must be at most most, or with its half.
		{1, most / 1000, "922337203685477500.0%"}, {1, most/1000 + 1, "*"}, {-1, most/1000 + 1, "*"}, {1, -most/1000 - 1, "*"}, {-1, -most / 1000, "922337203685477500.0%"},
		{1, most, "*"}, {1, -most, "*"}, {-1, most, "*"}, {-1, -most, "*"}, {999, most, "*"}, {-999, most, "*"}, {1000, most, "922337203685477580.7%"}, {-1000, most, "-922337203685477580.7%"}, {1000, -most, "-922337203685477580.7%"},
		// MaxAmount and a 57th; MaxAmount and 18 of 26; MaxAmount and just a half, of all signs; the next lower one.
		{57, 525732206100722221, "922337203685477580.7%"}, {26, 239807672958224171, "*"}, {400, 3689348814741910323, "*"}, {400, -3689348814741910323, "*"}, {-400, 3689348814741910323, "*"}, {-400, -3689348814741910323, "*"}, {400, 3689348814741910322, "922337203685477580.5%"},
	} {
		if got := shares(t, x.whole, x.part); got != x.want {
			t.Errorf("%d of %d: %q, want %q", x.part, x.whole, got, x.want)
		}
	}
	r := source(3)
	edges := []int64{0, 1, -1, 2, 999, 1000, 1001, -1000, most, -most, most - 1, most / 1000, most/1000 + 1, most / 2}
	for range 5000 {
		whole, part := edges[r.IntN(len(edges))], edges[r.IntN(len(edges))]
		if r.IntN(2) == 0 {
			whole, part = whole>>r.IntN(60), part>>r.IntN(60)
		}
		shares(t, whole, part)
	}
}

// A share is one of its own root's Rollup, not of the parent's and not of another root's.
func TestP17_2SharesOfRoots(t *testing.T) {
	accounts := accountsOf("A", "A:B", "A:B:C", "B", "B:B", "C", "C:D")
	l := []api.Balance{balance("A", 200), balance("A:B", 100), balance("A:B:C", 50), balance("B", -400), balance("B:B", 100), balance("C:D", 100)}
	s, e := treeOf(t, accounts, l, 0)
	want := []string{
		"A       200  100.0%",
		"  B     100   50.0%",
		"    C    50   25.0%",
		"B      -400  100.0%",
		"  B     100  -25.0%",
		"C         0",
		"  D     100",
	}
	prints(t, s, e, want...)
	slices.Reverse(l)
	s, e = treeOf(t, accounts, l, 0)
	prints(t, s, e, want...)
}

func TestP17_2Widths(t *testing.T) {
	s, e := treeOf(t, accountsOf("Abcdef", "Abcdef:B"), []api.Balance{balance("Abcdef", 1), balance("Abcdef:B", 1000)}, 1)
	prints(t, s, e,
		"Abcdef    0.1     100.0%",
		"  B     100.0  100000.0%")
}

// P17.8: a line for each account.
func TestP17_8TreeLines(t *testing.T) {
	r := source(4)
	for range 500 {
		accounts := anyAccounts(r, r.IntN(20))
		s, e := treeOf(t, accounts, anyBalances(r, accounts), r.IntN(7))
		if e != api.OK || strings.Count(s, "\n") != len(accounts) {
			t.Fatalf("%v: %s(%d)", accounts, s, e)
		}
	}
}
