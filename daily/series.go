package daily

import (
	"cmp"
	"slices"
	"sort"

	"daybook/api"
)

// told: so much was told of a day.
type told[N any] struct {
	day    int
	change N
}

// mark is a day with all that was told of it, and the sum of that and of all ahead of it.
type mark[N any] struct {
	told[N]
	balance N
}

// series is marks by rising day, whatever it is that is summed. No mark has the change 0.
type series[N comparable] []mark[N]

// tail is how a series is to go on: so many of its marks stay, and these follow.
type tail[N comparable] struct {
	stay  int
	marks series[N]
}

// ahead is how many marks are of days ahead of one.
func (s series[N]) ahead(day int) int {
	return sort.Search(len(s), func(i int) bool { return s[i].day >= day })
}

// upTo is how many marks are of a day and those ahead of it.
func (s series[N]) upTo(day int) int {
	return sort.Search(len(s), func(i int) bool { return s[i].day > day })
}

// balance is the sum of the first n marks.
func (s series[N]) balance(n int) N {
	if n == 0 {
		var none N
		return none
	}
	return s[n-1].balance
}

// with works out how the series is to go on if more is told; it stays as it is. With an error of sum, that is the answer.
func (s series[N]) with(more []told[N], sum func([]N) (N, api.Errno)) (tail[N], api.Errno) {
	stay, all := s.behind(more)
	balance := s.balance(stay)
	var marks series[N]
	for len(all) > 0 {
		day := all[0].day
		var same []N
		same, all = cutDay(all)
		change, e := sum(same)
		if e != api.OK {
			return tail[N]{}, e
		}
		if balance, e = sum([]N{balance, change}); e != api.OK {
			return tail[N]{}, e
		}
		var none N
		if change != none {
			marks = append(marks, mark[N]{told[N]{day, change}, balance})
		}
	}
	return tail[N]{stay, marks}, api.OK
}

// behind is how many marks are ahead of all that more is told; and, by rising day, that and what the other marks tell.
func (s series[N]) behind(more []told[N]) (int, []told[N]) {
	stay := len(s)
	for _, x := range more {
		stay = min(stay, s.ahead(x.day))
	}
	all := slices.Clone(more)
	for _, m := range s[stay:] {
		all = append(all, m.told)
	}
	slices.SortFunc(all, func(a, b told[N]) int { return cmp.Compare(a.day, b.day) })
	return stay, all
}

// ending is the series with another tail. It takes the room of the series, which is used no more.
func (s series[N]) ending(t tail[N]) series[N] { return append(s[:t.stay], t.marks...) }

// cutDay cuts what is told of the first day off a list by rising day.
func cutDay[N any](l []told[N]) (same []N, rest []told[N]) {
	day := l[0].day
	for len(l) > 0 && l[0].day == day {
		same = append(same, l[0].change)
		l = l[1:]
	}
	return same, l
}
