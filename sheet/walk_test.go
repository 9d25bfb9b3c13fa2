package sheet

import (
	"math/rand/v2"
	"testing"

	"daybook/api"
)

// often: whether something goes wrong here: seldom enough that some calls are whole.
func often(r *rand.Rand) bool { return r.IntN(12) == 0 }

// anyDigits: mostly good ones.
func anyDigits(r *rand.Rand) int {
	if often(r) {
		return []int{-1, 7}[r.IntN(2)]
	}
	return r.IntN(7)
}

func anyDay(r *rand.Rand, last int) int {
	if often(r) {
		return []int{0, -1, lastDay, lastDay + 1}[r.IntN(4)]
	}
	return 1 + r.IntN(last)
}

// worse: an amount as it is, or at an edge.
func worse(r *rand.Rand, n int64) int64 {
	if often(r) {
		return []int64{0, 1, -1, most, -most, least}[r.IntN(6)]
	}
	return n
}

func other(r *rand.Rand, name string) string {
	if often(r) {
		return append(badNames(), "A", "B", "Z")[r.IntN(len(badNames())+3)]
	}
	return name
}

// tally: how often each error was met.
type tally map[api.Errno]int

func (x tally) must(t *testing.T, whys ...api.Errno) {
	t.Helper()
	for _, why := range append(whys, api.OK) {
		if x[why] < 20 {
			t.Errorf("error %d was met %d times", why, x[why])
		}
		delete(x, why)
	}
	if len(x) > 0 {
		t.Errorf("errors that no chapter names: %v", x)
	}
}

func TestP17_1Walk(t *testing.T) {
	r, met := source(20), tally{}
	for range 5000 {
		l := anyColumns(r, r.IntN(6))
		for i := range l {
			l[i] = column(other(r, l[i].Account), worse(r, l[i].Debit), worse(r, l[i].Credit))
		}
		_, e := trial(t, l, anyDigits(r))
		met[e]++
	}
	met.must(t, api.ErrArg, api.ErrPath, api.ErrAmount, api.ErrOverflow)
}

// spoiltAccounts: a valid list, but for one in ten.
func spoiltAccounts(r *rand.Rand, n int) []api.Account {
	l := anyAccounts(r, n)
	if len(l) > 0 && often(r) {
		i := r.IntN(len(l))
		switch r.IntN(4) {
		case 0:
			l[i].Type = r.IntN(7)
		case 1:
			l[i].Opened = r.IntN(3)
		case 2:
			l[i].Closed = true
		default:
			l[i].Name = other(r, l[r.IntN(len(l))].Name)
		}
	}
	return l
}

func TestP17_2Walk(t *testing.T) {
	r, met := source(21), tally{}
	for range 5000 {
		accounts := spoiltAccounts(r, r.IntN(8))
		l := anyBalances(r, accounts)
		for i := range l {
			if often(r) {
				l[i].Account = l[r.IntN(len(l))].Account
			}
			l[i].Account, l[i].Rollup = other(r, l[i].Account), worse(r, l[i].Rollup)
		}
		_, e := treeOf(t, accounts, l, anyDigits(r))
		met[e]++
	}
	met.must(t, api.ErrArg, api.ErrChart, api.ErrUnknown, api.ErrTwice, api.ErrAmount)
}

// spoiltRows: rows of the days up to 9, some of them at fault.
func spoiltRows(r *rand.Rand, accounts []api.Account) []api.Posting {
	rows := anyRows(r, accounts, r.IntN(8), 9)
	for i := range rows {
		if r.IntN(2) == 0 {
			rows[i].Amount = int64(r.IntN(100))
		}
		if r.IntN(3) == 0 {
			rows[i] = posted(other(r, rows[i].Account), anyDay(r, 9), worse(r, rows[i].Amount))
		}
	}
	return rows
}

func TestP17_3Walk(t *testing.T) {
	r, met := source(22), tally{}
	for range 8000 {
		accounts := spoiltAccounts(r, r.IntN(6))
		_, e := income(t, accounts, spoiltRows(r, accounts), anyDay(r, 5), anyDay(r, 9), anyDigits(r))
		met[e]++
	}
	met.must(t, api.ErrArg, api.ErrChart, api.ErrUnknown, api.ErrDay, api.ErrAmount, api.ErrOverflow)
}

func TestP17_4Walk(t *testing.T) {
	r, met := source(23), tally{}
	for range 8000 {
		accounts := spoiltAccounts(r, r.IntN(6))
		_, e := position(t, accounts, spoiltRows(r, accounts), anyDay(r, 9), anyDigits(r))
		met[e]++
	}
	met.must(t, api.ErrArg, api.ErrChart, api.ErrUnknown, api.ErrDay, api.ErrAmount, api.ErrOverflow)
}

func TestP17_5Walk(t *testing.T) {
	r, met := source(24), tally{}
	for range 8000 {
		name := anyName(r)
		open := anyClaims(r, name, r.IntN(5))
		for i, c := range open {
			open[i] = claim(c.Key, other(r, c.Account), anyDay(r, lastDay), anyDay(r, lastDay), worse(r, c.Amount))
			if often(r) {
				open[i].Key = []string{"", "a b", "a:", longestKey + "x", "\n"}[r.IntN(5)]
			}
		}
		ages := anyAges(r)
		ages[r.IntN(5)] = worse(r, ages[0])
		_, e := statement(t, other(r, name), open, ages, anyDay(r, lastDay), anyDigits(r))
		met[e]++
	}
	met.must(t, api.ErrArg, api.ErrPath, api.ErrMix, api.ErrAmount, api.ErrOverflow)
}

func TestP17_6Walk(t *testing.T) {
	r, met := source(25), tally{}
	for range 8000 {
		x := anyTable(r)
		for i, row := range x.Rows {
			for j := range row {
				if often(r) {
					row[j].Type = r.IntN(7)
				}
				if often(r) {
					row[j].Num = []int64{0, 1, 2, -1, lastDay, lastDay + 1, most, least}[r.IntN(8)]
				}
				if often(r) {
					row[j].Text = []string{"\x1f", " ", "~", "\x7f", "a\n", "\xff"}[r.IntN(6)]
				}
			}
			if often(r) && len(row) > 0 {
				x.Rows[i] = row[:r.IntN(len(row))]
			}
		}
		if len(x.Types) > 0 && often(r) {
			x.Types[r.IntN(len(x.Types))] = r.IntN(8) - 1
		}
		_, e := table(t, x, anyDigits(r))
		met[e]++
	}
	met.must(t, api.ErrArg, api.ErrTyping, api.ErrDay, api.ErrAmount)
}
