package answer

import (
	"math"
	"math/rand/v2"
	"slices"
	"testing"

	"daybook/api"
	"daybook/rebuild"
	"daybook/typing"
)

// leaves: nodes without parts.
func leaves(r *rand.Rand) api.Node {
	switch r.IntN(9) {
	case 0:
		return num(pick[int64](r, 0, 1, -1, 2, 7, 100, greatest, -greatest, least, 1<<31))
	case 1:
		return num(r.Int64N(5))
	case 2:
		return said(pick(r, "", "A", "A:B", "a", "rent", bank, "Assets", "\xff"))
	case 3:
		return dayOf(pick[int64](r, 1, lastDay, d, d+r.Int64N(60), d+r.Int64N(60)))
	case 4:
		return truth(r.Int64N(2))
	}
	return fieldOf(1 + r.IntN(14))
}

// anyNodes: so many nodes with types, parts of all kinds and often named again.
func anyNodes(r *rand.Rand, size int) []api.Node {
	var nodes []api.Node
	for len(nodes) < size {
		n := leaves(r)
		if len(nodes) > 0 && r.IntN(3) > 0 {
			for range 30 {
				op := pair(1+r.IntN(15), r.IntN(len(nodes)), r.IntN(len(nodes)))
				if _, why := typing.Check(showing(append(slices.Clip(nodes), op), api.ACount, 0)); why == api.OK {
					n = op
					break
				}
			}
		}
		nodes = append(nodes, n)
	}
	return nodes
}

// placesOf: of the nodes with one of these types.
func placesOf(types []int, wanted ...int) (l []int) {
	for place, x := range types {
		if slices.Contains(wanted, x) {
			l = append(l, place)
		}
	}
	return l
}

// anyQuery: one that means something.
func anyQuery(r *rand.Rand) api.Query {
	q := api.Query{Nodes: anyNodes(r, r.IntN(14)), Where: -1, Limit: pick(r, -1, -1, -1, 0, 1, 2, 7, math.MaxInt)}
	types := nodeTypes(q.Nodes)
	if l := placesOf(types, api.TBool); len(l) > 0 && r.IntN(4) > 0 {
		q.Where = pick(r, l...)
	}
	for range r.IntN(4) {
		q.By = append(q.By, 1+r.IntN(14))
	}
	for range 1 + r.IntN(3) {
		a := api.Agg{Kind: api.ACount, Of: pick(r, -1, 0, 9)}
		if l := placesOf(types, api.TNum, api.TMoney); len(l) > 0 && r.IntN(3) == 0 {
			a = api.Agg{Kind: api.ASum, Of: pick(r, l...)}
		}
		if l := placesOf(types, api.TNum, api.TMoney, api.TText, api.TDay); len(l) > 0 && r.IntN(3) == 0 {
			a = api.Agg{Kind: pick(r, api.AMin, api.AMax), Of: pick(r, l...)}
		}
		q.Show = append(q.Show, a)
	}
	for range r.IntN(4) {
		q.Orders = append(q.Orders, api.Order{Column: r.IntN(len(q.By) + len(q.Show)), Desc: r.IntN(2) == 0})
	}
	return q
}

// anyRows: rows that are mostly such as books have; wild: now and then one that has what is over.
func anyRows(r *rand.Rand, size int, wild bool) []api.Posting {
	rows := make([]api.Posting, size)
	for i := range rows {
		rows[i] = api.Posting{
			Seq: 1 + r.IntN(4), Line: 1 + r.IntN(3), Day: d + r.IntN(60), Kind: pick(r, 3, 4, 5, 6), Key: pick(r, "a", "b", "k"), Account: pick(r, "A", "A:B", "A-1", bank, "Costs"),
			Amount: r.Int64N(9) - 4, Tag: pick(r, "", "rent", "car"), Memo: pick(r, "", "a b"),
		}
		if wild && r.IntN(6) == 0 {
			row := &rows[i]
			switch r.IntN(6) {
			case 0:
				row.Seq, row.Line = pick(r, math.MinInt, math.MaxInt, -1), pick(r, math.MinInt, 0)
			case 1:
				row.Day = pick(r, 0, lastDay+1, lastDay, 1, math.MinInt)
			case 2, 3:
				row.Amount = pick[int64](r, least, greatest, -greatest)
			case 4:
				row.Account = pick(r, "", ":", "x y:z", "\xff")
			case 5:
				row.Key, row.Kind = pick(r, "", "\xff\x00", "ä"), math.MinInt
			}
		}
	}
	return rows
}

// walk: queries that mean something and rows; what came of them is counted.
func walk(t *testing.T, seed uint64, one func(r *rand.Rand, q api.Query, rows []api.Posting)) {
	t.Helper()
	r := source(seed)
	for range 3000 {
		one(r, anyQuery(r), anyRows(r, r.IntN(12), r.IntN(2) == 0))
	}
}

func TestP15_1AsModel(t *testing.T) {
	count := map[api.Errno]int{}
	rows := 0
	walk(t, 1, func(r *rand.Rand, q api.Query, l []api.Posting) {
		got, why := scansAsPlain(t, q, l)
		scansAsPlain(t, q, l) // again, and it is the same
		count[why]++
		rows += len(got.Rows)
		q = copied(q)
		if len(q.Nodes) > 0 { // spoilt: it may mean something still
			n := &q.Nodes[r.IntN(len(q.Nodes))]
			switch r.IntN(5) {
			case 0:
				n.Op = r.IntN(22)
			case 1:
				n.Left = r.IntN(15) - 1
			case 2:
				n.Right = r.IntN(15) - 1
			case 3:
				n.Field = r.IntN(16)
			case 4:
				n.Num = pick[int64](r, least, -1, 0, 1, 5, lastDay, lastDay+1)
			}
		}
		_, why = scansAsPlain(t, q, l)
		count[why]++
	})
	if count[api.OK] < 2000 || count[api.ErrOverflow] < 300 || count[api.ErrTyping] < 300 || rows < 3000 {
		t.Errorf("%v, %d rows", count, rows)
	}
}

// The rows in another order are answered alike.
func TestP15_5Order(t *testing.T) {
	walk(t, 2, func(r *rand.Rand, q api.Query, rows []api.Posting) {
		want, wantWhy := Scan(q, rows)
		other := slices.Clone(rows)
		for range 3 {
			r.Shuffle(len(other), func(i, j int) { other[i], other[j] = other[j], other[i] })
			if got, why := Scan(q, other); why != wantWhy || !alike(got, want) {
				t.Fatalf("%s: %+v: %+v, %d; shuffled: %+v, %d", told(q), rows, want, int(wantWhy), got, int(why))
			}
		}
		slices.Reverse(other)
		if got, why := Scan(q, other); why != wantWhy || !alike(got, want) {
			t.Fatalf("%s: %+v: %+v, %d; turned round: %+v, %d", told(q), rows, want, int(wantWhy), got, int(why))
		}
	})
}

// bare: the query without By, Orders and Limit.
func bare(q api.Query) api.Query {
	q.By, q.Orders, q.Limit = nil, nil, -1
	return q
}

// added: one of Show of two parts, put together; the zero cell: it is no amount.
func added(kind int, a, b api.Cell) api.Cell {
	switch kind {
	case api.AMin:
		return slices.MinFunc(line(a, b), compareCells)
	case api.AMax:
		return slices.MaxFunc(line(a, b), compareCells)
	}
	return api.Cell{Type: a.Type, Num: a.Num + b.Num}
}

func compareCells(a, b api.Cell) int {
	if a.Type == api.TText {
		return plainCompare(a.Text, b.Text)
	}
	return map[bool]int{true: -1}[a.Num < b.Num] + map[bool]int{true: 1}[a.Num > b.Num]
}

// The rows cut in two: counts and sums add up, the least and the greatest are those of the two.
func TestP15_6Parts(t *testing.T) {
	held := 0
	walk(t, 3, func(r *rand.Rand, q api.Query, rows []api.Posting) {
		q = bare(q)
		var parts [2][]api.Posting
		for _, row := range rows {
			side := r.IntN(2)
			parts[side] = append(parts[side], row)
		}
		all, why := Scan(q, rows)
		one, oneWhy := Scan(q, parts[0])
		two, twoWhy := Scan(q, parts[1])
		if why != api.OK || oneWhy != api.OK || twoWhy != api.OK || len(one.Rows) == 0 || len(two.Rows) == 0 {
			return
		}
		held++
		for i, a := range q.Show {
			if want := added(a.Kind, one.Rows[0][i], two.Rows[0][i]); all.Rows[0][i] != want {
				t.Fatalf("%s: %+v: %+v; the parts %+v and %+v", told(q), rows, all, one, two)
			}
		}
	})
	if held < 800 {
		t.Errorf("%d", held)
	}
}

// Each group's cells are those of the query without By over just its rows.
func TestP15_6Groups(t *testing.T) {
	held := 0
	walk(t, 4, func(r *rand.Rand, q api.Query, rows []api.Posting) {
		q.Limit = -1
		got, why := Scan(q, rows)
		if why != api.OK || len(q.By) == 0 {
			return
		}
		for _, row := range got.Rows {
			var own []api.Posting
			for _, p := range rows {
				if slices.EqualFunc(q.By, row[:len(q.By)], func(f int, c api.Cell) bool {
					v := plainField(f, p)
					return v != nil && plainCell(c.Type, v) == c
				}) {
					own = append(own, p)
				}
			}
			held++
			if one, why := Scan(bare(q), own); why != api.OK || len(one.Rows) != 1 || !slices.Equal(one.Rows[0], row[len(q.By):]) {
				t.Fatalf("%s: %+v; its rows %+v alone: %+v, %d", told(q), row, own, one, int(why))
			}
		}
	})
	if held < 2000 {
		t.Errorf("%d", held)
	}
}

// counted: how many rows a condition counts; false: it is over.
func counted(t *testing.T, nodes []api.Node, where int, rows []api.Posting) (int64, bool) {
	t.Helper()
	q := showing(nodes, api.ACount, -1)
	q.Where = where
	got, why := Scan(q, rows)
	if why == api.OK {
		return got.Rows[0][0].Num, true
	}
	if why != api.ErrOverflow {
		t.Fatalf("%+v: %d", q, int(why))
	}
	return 0, false
}

// A condition and its opposite count each row just once; one behind the other count what both with QAnd do.
func TestP15_7Conditions(t *testing.T) {
	opposites, pairs := 0, 0
	walk(t, 5, func(r *rand.Rand, q api.Query, rows []api.Posting) {
		places := placesOf(nodeTypes(q.Nodes), api.TBool)
		if len(places) == 0 {
			return
		}
		one, two := pick(r, places...), pick(r, places...)
		last := len(q.Nodes)
		nodes := append(slices.Clip(q.Nodes), of(api.QNot, one), pair(api.QAnd, one, two))
		n, good := counted(t, nodes, one, rows)
		m, alsoGood := counted(t, nodes, last, rows)
		if good != alsoGood {
			t.Fatalf("%+v over %+v: over is %v, of its opposite %v", nodes, rows, !good, !alsoGood)
		}
		if !good {
			return
		}
		opposites++
		if n+m != int64(len(rows)) {
			t.Fatalf("%+v over %+v: %d, its opposite %d", nodes, rows, n, m)
		}
		var left []api.Posting
		for _, row := range rows {
			if n, _ := counted(t, nodes, one, []api.Posting{row}); n == 1 {
				left = append(left, row)
			}
		}
		both, bothGood := counted(t, nodes, last+1, rows)
		second, secondGood := counted(t, nodes, two, left)
		if both != second || bothGood != secondGood {
			t.Fatalf("%+v over %+v: both %d, %v; one behind the other %d, %v", nodes, rows, both, bothGood, second, secondGood)
		}
		pairs++
	})
	if opposites < 800 || pairs < 800 {
		t.Errorf("%d, %d", opposites, pairs)
	}
}

// A limit cuts off what is behind it; without Orders the rows rise in By's cells, no two of them alike.
func TestP15_8Limit(t *testing.T) {
	held := 0
	walk(t, 6, func(r *rand.Rand, q api.Query, rows []api.Posting) {
		q.Limit = -1
		all, why := Scan(q, rows)
		for _, limit := range []int{0, 1, 2, len(all.Rows), len(all.Rows) + 1, math.MaxInt} {
			q.Limit = limit
			got, gotWhy := Scan(q, rows)
			if gotWhy != why || !alike(got, api.Table{Types: all.Types, Rows: all.Rows[:min(limit, len(all.Rows))]}) {
				t.Fatalf("%s: %+v, %d; without a limit %+v, %d", told(q), got, int(gotWhy), all, int(why))
			}
		}
		q.Limit, q.Orders = -1, nil
		got, _ := Scan(q, rows)
		for i := range got.Rows {
			if i > 0 {
				held++
				if slices.CompareFunc(got.Rows[i-1][:len(q.By)], got.Rows[i][:len(q.By)], compareCells) >= 0 {
					t.Fatalf("%s: %+v", told(q), got)
				}
			}
		}
	})
	if held < 2000 {
		t.Errorf("%d", held)
	}
}

// anyBareSum: one whose condition is mostly made of what views know.
func anyBareSum(r *rand.Rand) api.Query {
	text := said(pick(r, bank, cust, ann, "Assets", work, "Income", "Costs", "Other", "", "x y", "A"))
	nodes := []api.Node{text, dayOf(d + r.Int64N(70)), dayOf(pick[int64](r, 1, lastDay, d, d+r.Int64N(90))), fieldOf(api.FAccount), fieldOf(api.FDay), fieldOf(api.FAmount)}
	var conditions []int
	add := func(n api.Node) {
		conditions = append(conditions, len(nodes))
		nodes = append(nodes, n)
	}
	add(pair(pick(r, api.QEq, api.QEq, api.QEq, api.QUnder), 3, 0))
	for range r.IntN(4) {
		add(pair(pick(r, api.QEq, api.QLt, api.QLe, api.QGt, api.QGe), 4, 1+r.IntN(2)))
	}
	all := conditions[0]
	for _, c := range conditions[1:] {
		if r.IntN(2) == 0 {
			add(pair(api.QAnd, all, c))
		} else {
			add(pair(api.QAnd, c, all))
		}
		all = len(nodes) - 1
	}
	q := showing(nodes, api.ASum, 5)
	q.Where, q.Limit = pick(r, all, all, all, conditions[r.IntN(len(conditions))], -1), pick(r, -1, -1, 0, 1, 5)
	for range r.IntN(3) {
		q.Show = append(q.Show, q.Show[0])
		q.Orders = append(q.Orders, api.Order{Column: r.IntN(len(q.Show)), Desc: r.IntN(2) == 0})
	}
	return q
}

// Behind any events, in whatever way the set came to be, Quick, Ask and Scan answer alike.
func TestP15_4AnyWay(t *testing.T) {
	r := source(7)
	plans := map[int]int{}
	for range 12 {
		events := anyEvents(r, 60)
		for _, s := range waysTo(t, events, r.IntN(len(events))) {
			for range 25 {
				q := pick(r, anyBareSum(r), anyBareSum(r), anyBareSum(r), anyQuery(r))
				plans[typing.Plan(q)]++
				asked(t, q, s)
			}
		}
	}
	if plans[typing.ByScan] < 100 || plans[typing.BySums] < 200 || plans[typing.ByDaily] < 200 {
		t.Errorf("%v", plans)
	}
}

// The sets' answers are one, and go on so with every event.
func TestP15_4AllWaysAlike(t *testing.T) {
	r := source(8)
	events := story()
	for cut := range events {
		sets := waysTo(t, events[:cut], cut/2)
		for range 6 {
			q := pick(r, anyBareSum(r), anyQuery(r))
			want, wantWhy := asked(t, q, sets[0])
			for _, s := range sets[1:] {
				if got, why := asked(t, q, s); why != wantWhy || !alike(got, want) {
					t.Fatalf("%s behind %d events: %+v, %d; another set %+v, %d", told(q), cut, want, int(wantWhy), got, int(why))
				}
			}
		}
		for _, s := range sets {
			if why := s.Apply(events[cut]); why != api.OK {
				t.Fatalf("%+v: %d", events[cut], int(why))
			}
			asked(t, anyBareSum(r), s)
		}
	}
}

// balances: what the trial balance and the rows say that `by account show sum(amount)` answers.
func balances(s *rebuild.Set) (rows [][]api.Cell) {
	own := map[string]int64{}
	var names []string
	for _, row := range s.Book().Base().Rows {
		if _, is := own[row.Account]; !is {
			names = append(names, row.Account)
		}
		own[row.Account] = 0
	}
	for _, c := range s.Sums().Trial() {
		own[c.Account] = c.Debit - c.Credit
	}
	slices.Sort(names)
	for _, name := range names {
		rows = append(rows, line(text(name), cash(own[name])))
	}
	return rows
}

func TestP15_9Books(t *testing.T) {
	r := source(9)
	zero := 0
	lists := [][]api.Event{nil, opened(), story()}
	for range 15 {
		lists = append(lists, anyEvents(r, 70))
	}
	for _, events := range lists {
		s := behind(t, events)
		if got, why := asked(t, read(t, "show sum(amount)"), s); why != api.OK || !alike(got, api.Table{Types: []int{api.TMoney}, Rows: [][]api.Cell{line(cash(0))}}) {
			t.Errorf("%+v, %d", got, int(why))
		}
		got, why := asked(t, read(t, "by account show sum(amount)"), s)
		if why != api.OK || !alike(got, api.Table{Types: []int{api.TText, api.TMoney}, Rows: balances(s)}) {
			t.Errorf("%+v, %d; want %+v", got, int(why), balances(s))
		}
		for _, row := range got.Rows {
			if row[1].Num == 0 {
				zero++
			}
		}
		asked(t, read(t, "by root show sum(debit), sum(credit), sum(amount)"), s)
	}
	if zero == 0 {
		t.Error("no account has rows and a balance of 0")
	}
	// By hand: the story's.
	gives(t, read(t, "by account show sum(amount)"), behind(t, story()).Book().Base().Rows,
		line(text("Assets"), cash(9)), line(text(bank), cash(6061)), line(text(cust), cash(0)), line(text(ann), cash(4000)), line(text("Costs"), cash(4)), line(text("Gone"), cash(0)), line(text(work), cash(-10074)))
}
