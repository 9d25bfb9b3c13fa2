package aged

import "daybook/api"

// steps: so many days behind its due day a claim is an age further on.
var steps = [...]int{1, 31, 61, 91}

// claim is an invoice with what was allotted to it.
type claim struct {
	api.Claim
	left  int64
	parts []part
	shown share // what of it is in its account's ages at the view's day
}

// part: so much was allotted on a day.
type part struct {
	day    int
	amount int64
}

// share is what a claim puts into its account's ages.
type share struct {
	age  int
	open int64
}

// share is the claim's at a day.
func (c *claim) share(day int) share {
	if day < c.Day {
		return share{}
	}
	s := share{open: c.Amount}
	for _, p := range c.parts {
		if p.day <= day {
			s.open -= p.amount
		}
	}
	for _, n := range steps {
		if day-c.Due >= n {
			s.age++
		}
	}
	return s
}

// turns is the days on which the claim's share changes, whatever is allotted.
func (c *claim) turns() []int {
	days := []int{c.Day}
	for _, n := range steps {
		days = append(days, c.Due+n)
	}
	return days
}
