package answer

import (
	"slices"

	"daybook/api"
)

// aggregate is one of Show with its column's type.
type aggregate struct{ kind, of, valueType int }

// isEnd tells whether it is the least or the greatest: there is none of no rows.
func (a aggregate) isEnd() bool { return a.kind == api.AMin || a.kind == api.AMax }

// layout is where the columns' cells come from. A query may name a field or an aggregate again and again: it is worked out once.
type layout struct {
	fields []int       // those of By, each once
	shown  []aggregate // those of Show, each once
	places []int       // of each column: its place among fields and, behind them, shown
}

// layOut makes the layout of a query that means something; types are its columns'.
func layOut(q api.Query, types []int) layout {
	show := make([]aggregate, len(q.Show))
	for i, a := range q.Show {
		show[i] = aggregate{a.Kind, a.Of, types[len(q.By)+i]}
		if a.Kind == api.ACount {
			show[i].of = 0 // any number may stand there
		}
	}
	fields, places := once(q.By)
	shown, behind := once(show)
	for _, place := range behind {
		places = append(places, len(fields)+place)
	}
	return layout{fields, shown, places}
}

// once is the different ones of a list, in the order in which they come first, and of each one of the list its place among these.
func once[T comparable](l []T) (different []T, places []int) {
	seen := map[T]int{}
	for _, x := range l {
		place, is := seen[x]
		if !is {
			place = len(different)
			seen[x] = place
			different = append(different, x)
		}
		places = append(places, place)
	}
	return different, places
}

func (l layout) hasEnds() bool { return slices.ContainsFunc(l.shown, aggregate.isEnd) }

// row is a line's cells as the columns ask for them.
func (l layout) row(line []api.Cell) []api.Cell {
	row := make([]api.Cell, 0, len(l.places))
	for _, place := range l.places {
		row = append(row, line[place])
	}
	return row
}

// order is the order of lines that a query asks for: by its Orders, and then rising by By's fields.
func (l layout) order(orders []api.Order) func(a, b []api.Cell) int {
	keys := l.sortKeys(orders)
	return func(a, b []api.Cell) int {
		for _, k := range keys {
			c := compare(a[k.Column], b[k.Column])
			if k.Desc {
				c = -c
			}
			if c != 0 {
				return c
			}
		}
		return 0
	}
}

// sortKeys is Orders, with By's fields behind them, as places of lines: each place once, for what is alike there stays so.
func (l layout) sortKeys(orders []api.Order) []api.Order {
	var keys []api.Order
	seen := make([]bool, len(l.fields)+len(l.shown))
	add := func(place int, desc bool) {
		if !seen[place] {
			seen[place] = true
			keys = append(keys, api.Order{Column: place, Desc: desc})
		}
	}
	for _, o := range orders {
		add(l.places[o.Column], o.Desc)
	}
	for place := range l.fields {
		add(place, false)
	}
	return keys
}
