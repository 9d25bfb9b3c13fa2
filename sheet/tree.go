package sheet

import (
	"strings"

	"daybook/api"
	"daybook/chart"
	"daybook/money"
	"daybook/names"
)

const (
	indent    = "  "
	wholePart = 1000 // tenths of a per cent
	noShare   = "*"  // of a share that is no amount
)

// tree is what is told of accounts by their names.
type tree struct {
	texts
	rollups map[string]int64
}

// rollupsOf is the rollups that balances tell, by the account's name.
func rollupsOf(c *chart.Chart, l []api.Balance) (map[string]int64, api.Errno) {
	rollups := map[string]int64{}
	for _, b := range l {
		if _, known := c.Find(b.Account); !known {
			return nil, api.ErrUnknown
		}
		if _, told := rollups[b.Account]; told {
			return nil, api.ErrTwice
		}
		if e := money.Check(b.Rollup); e != api.OK {
			return nil, e
		}
		rollups[b.Account] = b.Rollup
	}
	return rollups, api.OK
}

// below is the names of all accounts below one, in the tree's order; of the empty text those of all.
func below(c *chart.Chart, name string) []string {
	var l []string
	for _, kid := range c.Kids(name) {
		l = append(l, kid)
		l = append(l, below(c, kid)...)
	}
	return l
}

// indented is a name's last part, as far to the right as it is below others.
func indented(name string) string {
	above := strings.Count(name, names.Between)
	return strings.Repeat(indent, above) + name[strings.LastIndex(name, names.Between)+1:]
}

func (t tree) rollup(name string) string { return t.amount(t.rollups[name]) }

// share is which part of its root's rollup an account has.
func (t tree) share(name string) string {
	parts, whole := int64(wholePart), t.rollups[chart.Root(name)]
	if whole == 0 {
		return ""
	}
	if whole < 0 {
		// A ratio divides by what is above 0 alone.
		parts, whole = -parts, -whole
	}
	share, e := money.Ratio(t.rollups[name], parts, whole, api.RoundHalf)
	if e != api.OK {
		return noShare
	}
	return texts{1}.amount(share) + "%"
}
