package answer

import "daybook/api"

// key is the cells of the fields by which rows are grouped, each field once: there are no more than these.
type key [api.FRoot]api.Cell

// group is rows that count and are alike in By's fields: its key, and what each aggregate has come to.
type group struct {
	key     key
	tallies []tally
}

// scan is a query on its way through the rows.
type scan struct {
	query  api.Query
	layout layout
	values []api.Cell // what each node is worth at the row that is looked at
	groups []group
	places map[key]int // of each group: where it stands among them
}

// take looks at a row, and puts it into its group, if it counts.
func (s *scan) take(row api.Posting) api.Errno {
	lookAt(row, s.query.Nodes, s.values)
	where := truthOf(true)
	if s.query.Where >= 0 {
		where = s.values[s.query.Where]
	}
	switch {
	case isOver(where):
		return api.ErrOverflow
	case !isTrue(where):
		return api.OK
	}
	k, why := s.layout.keyOf(row)
	if why != api.OK {
		return why
	}
	return s.tell(s.groupOf(k))
}

// keyOf is the key of a row that counts.
func (l layout) keyOf(row api.Posting) (key, api.Errno) {
	var k key
	for i, field := range l.fields {
		if k[i] = fieldAt(field, row); isOver(k[i]) {
			return key{}, api.ErrOverflow
		}
	}
	return k, api.OK
}

// groupOf is the tallies of a key's group, which is made if it is not there.
func (s *scan) groupOf(k key) []tally {
	place, is := s.places[k]
	if !is {
		place = len(s.groups)
		s.places[k] = place
		s.groups = append(s.groups, group{k, make([]tally, len(s.layout.shown))})
	}
	return s.groups[place].tallies
}

// tell tells the row that is looked at to the tallies of its group.
func (s *scan) tell(tallies []tally) api.Errno {
	for i, a := range s.layout.shown {
		c := api.Cell{Type: api.TNum, Num: 1} // a count is a sum of ones
		if a.kind != api.ACount {
			c = s.values[a.of]
		}
		if isOver(c) {
			return api.ErrOverflow
		}
		tallies[i].take(a.kind, c)
	}
	return api.OK
}

// line is a group's cells: those of By's fields, then those of the aggregates, each once.
func (l layout) line(g group) ([]api.Cell, api.Errno) {
	line := append([]api.Cell(nil), g.key[:len(l.fields)]...)
	for i, a := range l.shown {
		c := g.tallies[i].cell(a)
		if isOver(c) {
			return nil, api.ErrOverflow
		}
		line = append(line, c)
	}
	return line, api.OK
}

// lines is what is told of each group of the rows that count.
func (l layout) lines(q api.Query, rows []api.Posting) ([][]api.Cell, api.Errno) {
	s := scan{query: q, layout: l, values: make([]api.Cell, len(q.Nodes)), places: map[key]int{}}
	for _, row := range rows {
		if why := s.take(row); why != api.OK {
			return nil, why
		}
	}
	if len(l.fields) == 0 && !l.hasEnds() {
		s.groupOf(key{}) // it is there without rows too
	}
	lines := make([][]api.Cell, len(s.groups))
	for i, g := range s.groups {
		line, why := l.line(g)
		if why != api.OK {
			return nil, why
		}
		lines[i] = line
	}
	return lines, api.OK
}
