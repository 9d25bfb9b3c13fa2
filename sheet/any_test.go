package sheet

import (
	"cmp"
	"math/rand/v2"
	"slices"
	"strings"

	"daybook/api"
)

// anyAmount: small, or at an end.
func anyAmount(r *rand.Rand) int64 {
	switch r.IntN(8) {
	case 0:
		return 0
	case 1:
		return most - int64(r.IntN(2))
	case 2:
		return -most + int64(r.IntN(2))
	case 3:
		return r.Int64N(most) >> r.IntN(62)
	}
	return int64(r.IntN(2001) - 1000)
}

func anyColumns(r *rand.Rand, n int) []api.Column {
	var l []api.Column
	for range n {
		c := column(anyName(r), max(0, anyAmount(r)/16), max(0, anyAmount(r)/16))
		l = append(l, c)
	}
	return l
}

// anyName: with one to six parts.
func anyName(r *rand.Rand) string {
	parts := []string{"A", "B", "A-x", "Bc", "C9", longestPart}
	name := parts[r.IntN(len(parts))]
	for r.IntN(2) == 0 && strings.Count(name, ":") < 5 {
		name += ":" + parts[r.IntN(len(parts))]
	}
	return name
}

// anyAccounts: a valid list.
func anyAccounts(r *rand.Rand, n int) []api.Account {
	types := map[string]int{}
	var l []api.Account
	for range n {
		parts := strings.Split(anyName(r), ":")
		for i := range parts {
			name := strings.Join(parts[:i+1], ":")
			if has(l, name) || len(l) == 100 {
				continue
			}
			if types[parts[0]] == 0 {
				types[parts[0]] = 1 + r.IntN(5)
			}
			l = append(l, account(name, types[parts[0]]))
		}
	}
	slices.SortFunc(l, func(a, b api.Account) int { return cmp.Compare(a.Name, b.Name) })
	return l
}

// anyBalances: of some accounts, in any order.
func anyBalances(r *rand.Rand, accounts []api.Account) []api.Balance {
	var l []api.Balance
	for _, a := range accounts {
		if r.IntN(4) > 0 {
			l = append(l, api.Balance{Account: a.Name, Own: anyAmount(r), Rollup: anyAmount(r)})
		}
	}
	r.Shuffle(len(l), func(i, j int) { l[i], l[j] = l[j], l[i] })
	return l
}

// anyRows: on accounts, of the days up to a last one.
func anyRows(r *rand.Rand, accounts []api.Account, n, last int) []api.Posting {
	var l []api.Posting
	for range n {
		if len(accounts) > 0 {
			l = append(l, posted(accounts[r.IntN(len(accounts))].Name, 1+r.IntN(last), anyAmount(r)))
		}
	}
	return l
}

// anyClaims: of one account.
func anyClaims(r *rand.Rand, name string, n int) []api.Claim {
	keys := []string{"i", "i1", "x_y.z-0", longestKey, "Date"}
	var l []api.Claim
	for range n {
		l = append(l, claim(keys[r.IntN(len(keys))], name, 1+r.IntN(lastDay), 1+r.IntN(lastDay), max(1, anyAmount(r)/8)))
	}
	return l
}

func anyAges(r *rand.Rand) api.Ages {
	var ages api.Ages
	for i := range ages {
		ages[i] = max(0, anyAmount(r)/4)
	}
	return ages
}

// anyCell: a good one.
func anyCell(r *rand.Rand, typ int) api.Cell {
	switch typ {
	case api.TNum:
		return num([]int64{0, 1, -1, most, least, int64(r.IntN(1000))}[r.IntN(6)])
	case api.TText:
		return letters([]string{"", " ", "a", " b ", "cde", strings.Repeat("~", r.IntN(9))}[r.IntN(6)])
	case api.TDay:
		return dated(int64(1 + r.IntN(lastDay)))
	case api.TBool:
		return truth(int64(r.IntN(2)))
	}
	return cash(anyAmount(r))
}

func anyTable(r *rand.Rand) api.Table {
	var x api.Table
	for range r.IntN(6) {
		x.Types = append(x.Types, 1+r.IntN(5))
	}
	for range r.IntN(5) {
		var row []api.Cell
		for _, typ := range x.Types {
			row = append(row, anyCell(r, typ))
		}
		x.Rows = append(x.Rows, row)
	}
	return x
}
