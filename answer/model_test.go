package answer

import (
	"fmt"
	"math"
	"math/big"
	"math/rand/v2"
	"reflect"
	"slices"
	"strings"
	"testing"
	"time"

	"daybook/api"
	"daybook/chart"
	"daybook/grammar"
	"daybook/typing"
)

const (
	greatest = math.MaxInt64
	least    = math.MinInt64
	lastDay  = 3652059
	d        = 738886 // 2024-01-01
)

// The plain model works with whole numbers of any size, texts and truths: *big.Int, string, bool; nil is over.

// plainNumber: of a type, over if it is none of it.
func plainNumber(valueType int, n *big.Int) any {
	low, high := big.NewInt(-greatest), big.NewInt(greatest)
	if valueType == api.TDay {
		low, high = big.NewInt(1), big.NewInt(lastDay)
	}
	if n.Cmp(low) < 0 || n.Cmp(high) > 0 {
		return nil
	}
	return n
}

// plainField: 14.1's table and 15.1 of a row.
func plainField(f int, row api.Posting) any {
	date := time.Date(1, 1, 1, 0, 0, 0, 0, time.UTC).AddDate(0, 0, row.Day-1)
	ofDay := func(n int) any {
		if row.Day < 1 || row.Day > lastDay {
			return nil
		}
		return big.NewInt(int64(n))
	}
	ofAmount := func(n *big.Int) any {
		if row.Amount == least {
			return nil
		}
		return n
	}
	zero, amount := big.NewInt(0), big.NewInt(row.Amount)
	debit, credit := zero, zero
	if row.Amount > 0 {
		debit = amount
	}
	if row.Amount < 0 {
		credit = new(big.Int).Neg(amount)
	}
	return []any{
		plainNumber(api.TNum, big.NewInt(int64(row.Seq))), plainNumber(api.TNum, big.NewInt(int64(row.Line))),
		ofDay(row.Day), plainNumber(api.TNum, big.NewInt(int64(row.Kind))), row.Key, row.Account,
		ofAmount(amount), ofAmount(debit), ofAmount(credit), row.Tag, row.Memo,
		ofDay(date.Year()*100 + int(date.Month())), ofDay(date.Year()), strings.Split(row.Account, ":")[0],
	}[f-1]
}

// nodeTypes: of each node, as queries about it tell.
func nodeTypes(nodes []api.Node) []int {
	types := make([]int, len(nodes))
	for place := range nodes {
		q := showing(nodes[:place+1], api.AMin, place)
		if l, why := typing.Check(q); why == api.OK {
			types[place] = l[0]
			continue
		}
		q.Where, q.Show[0] = place, api.Agg{Kind: api.ACount}
		if _, why := typing.Check(q); why == api.OK {
			types[place] = api.TBool
		}
	}
	return types
}

// plainWorth: 15.1 of the node at a place.
func plainWorth(nodes []api.Node, types []int, place int, row api.Posting) any {
	n := nodes[place]
	part := func(at int) any { return plainWorth(nodes, types, at, row) }
	switch n.Op {
	case api.QField:
		return plainField(n.Field, row)
	case api.QNum:
		return plainNumber(api.TNum, big.NewInt(n.Num))
	case api.QText:
		return n.Text
	case api.QDay:
		return big.NewInt(n.Num)
	case api.QBool:
		return n.Num == 1
	case api.QAnd:
		if left := part(n.Left); left != true {
			return left
		}
		return part(n.Right)
	case api.QOr:
		if left := part(n.Left); left != false {
			return left
		}
		return part(n.Right)
	}
	left := part(n.Left)
	if left == nil {
		return nil
	}
	switch n.Op {
	case api.QNot:
		return !left.(bool)
	case api.QNeg:
		return plainNumber(types[place], new(big.Int).Neg(left.(*big.Int)))
	}
	right := part(n.Right)
	if right == nil {
		return nil
	}
	return plainBoth(n.Op, types[place], left, right)
}

// plainBoth: of the operations that ask for both of their parts.
func plainBoth(op, valueType int, left, right any) any {
	switch op {
	case api.QUnder:
		return chart.Under(left.(string), right.(string))
	case api.QHas:
		a, b := left.(string), right.(string)
		for at := 0; at+len(b) <= len(a); at++ {
			if a[at:at+len(b)] == b {
				return true
			}
		}
		return false
	case api.QEq:
		return plainCompare(left, right) == 0
	case api.QNe:
		return plainCompare(left, right) != 0
	case api.QLt:
		return plainCompare(left, right) < 0
	case api.QLe:
		return plainCompare(left, right) <= 0
	case api.QGt:
		return plainCompare(left, right) > 0
	case api.QGe:
		return plainCompare(left, right) >= 0
	}
	a, b, n := left.(*big.Int), right.(*big.Int), new(big.Int)
	switch op {
	case api.QAdd:
		n.Add(a, b)
	case api.QSub:
		n.Sub(a, b)
	case api.QMul:
		n.Mul(a, b)
	}
	return plainNumber(valueType, n)
}

func plainCompare(left, right any) int {
	switch a := left.(type) {
	case *big.Int:
		return a.Cmp(right.(*big.Int))
	case bool:
		if a == right.(bool) {
			return 0
		}
		return 1 // not alike is all that is asked
	}
	a, b := left.(string), right.(string)
	for i := 0; i < len(a) && i < len(b); i++ {
		if a[i] != b[i] {
			return int(a[i]) - int(b[i])
		}
	}
	return len(a) - len(b)
}

// plainGroup: the cells of By, and the rows.
type plainGroup struct {
	by   []any
	rows []api.Posting
}

// plainGroups: 15.2's points 1 and 2; false: over.
func plainGroups(q api.Query, types []int, rows []api.Posting) ([]*plainGroup, bool) {
	var groups []*plainGroup
	if len(q.By) == 0 {
		groups = append(groups, &plainGroup{})
	}
	for _, row := range rows {
		counts := any(true)
		if q.Where != -1 {
			counts = plainWorth(q.Nodes, types, q.Where, row)
		}
		if counts == nil {
			return nil, false
		}
		if counts == false {
			continue
		}
		var by []any
		for _, f := range q.By {
			by = append(by, plainField(f, row))
		}
		if slices.Contains(by, nil) {
			return nil, false
		}
		at := slices.IndexFunc(groups, func(g *plainGroup) bool { return slices.CompareFunc(g.by, by, plainCompare) == 0 })
		if at < 0 {
			at = len(groups)
			groups = append(groups, &plainGroup{by: by})
		}
		groups[at].rows = append(groups[at].rows, row)
	}
	return groups, true
}

// plainShow: one of Show of a group's rows; false: over; nil: there is none.
func plainShow(q api.Query, types []int, a api.Agg, rows []api.Posting) (any, bool) {
	if a.Kind == api.ACount {
		return big.NewInt(int64(len(rows))), true
	}
	var values []any
	for _, row := range rows {
		values = append(values, plainWorth(q.Nodes, types, a.Of, row))
	}
	if slices.Contains(values, nil) {
		return nil, false
	}
	if a.Kind == api.ASum {
		sum := new(big.Int)
		for _, v := range values {
			sum.Add(sum, v.(*big.Int))
		}
		n := plainNumber(types[a.Of], sum)
		return n, n != nil
	}
	if len(values) == 0 {
		return nil, true
	}
	slices.SortFunc(values, plainCompare)
	if a.Kind == api.AMin {
		return values[0], true
	}
	return values[len(values)-1], true
}

// plainScan: what Scan has to answer, point by point.
func plainScan(q api.Query, rows []api.Posting) (api.Table, api.Errno) {
	columns, why := typing.Check(q)
	if why != api.OK {
		return api.Table{}, api.ErrTyping
	}
	types := nodeTypes(q.Nodes)
	groups, good := plainGroups(q, types, rows)
	if !good {
		return api.Table{}, api.ErrOverflow
	}
	var lines [][]any
	for _, g := range groups {
		line := g.by
		for _, a := range q.Show {
			v, good := plainShow(q, types, a, g.rows)
			if !good {
				return api.Table{}, api.ErrOverflow
			}
			line = append(line, v)
		}
		if !slices.Contains(line, nil) {
			lines = append(lines, line)
		}
	}
	orders := slices.Clone(q.Orders)
	for column := range q.By {
		orders = append(orders, api.Order{Column: column})
	}
	slices.SortFunc(lines, func(a, b []any) int {
		for _, o := range orders {
			if c := plainCompare(a[o.Column], b[o.Column]); c != 0 && o.Desc {
				return -c
			} else if c != 0 {
				return c
			}
		}
		return 0
	})
	if q.Limit >= 0 && q.Limit < len(lines) {
		lines = lines[:q.Limit]
	}
	return plainTable(columns, lines), api.OK
}

func plainTable(columns []int, lines [][]any) api.Table {
	table := api.Table{Types: columns}
	for _, line := range lines {
		var row []api.Cell
		for i, v := range line {
			row = append(row, plainCell(columns[i], v))
		}
		table.Rows = append(table.Rows, row)
	}
	return table
}

func plainCell(valueType int, v any) api.Cell {
	if s, is := v.(string); is {
		return api.Cell{Type: valueType, Text: s}
	}
	return api.Cell{Type: valueType, Num: v.(*big.Int).Int64()}
}

// alike: the same, where nil and empty lists are.
func alike(a, b api.Table) bool {
	return slices.Equal(a.Types, b.Types) && slices.EqualFunc(a.Rows, b.Rows, slices.Equal[[]api.Cell])
}

func isZero(table api.Table) bool { return len(table.Types) == 0 && len(table.Rows) == 0 }

// scansAsPlain: Scan answers what the model does.
func scansAsPlain(t *testing.T, q api.Query, rows []api.Posting) (api.Table, api.Errno) {
	t.Helper()
	want, wantWhy := plainScan(q, rows)
	got, why := Scan(q, rows)
	if why != wantWhy || !alike(got, want) {
		t.Fatalf("Scan(%s, %+v):\n%+v, %d; want\n%+v, %d", told(q), rows, got, int(why), want, int(wantWhy))
	}
	return got, why
}

// told: a query's text, or its parts, if it has none.
func told(q api.Query) string {
	if s, why := grammar.Print(q); why == api.OK {
		return s
	}
	return fmt.Sprintf("%+v", q)
}

// gives: Scan answers these rows, and so does the model.
func gives(t *testing.T, q api.Query, rows []api.Posting, want ...[]api.Cell) {
	t.Helper()
	got, why := Scan(q, rows)
	if why != api.OK || !slices.EqualFunc(got.Rows, want, slices.Equal[[]api.Cell]) {
		t.Errorf("Scan(%s): %+v, %d; want %+v", told(q), got, int(why), want)
		return
	}
	scansAsPlain(t, q, rows)
}

// fails: Scan answers the zero table and this error, and so does the model.
func fails(t *testing.T, q api.Query, rows []api.Posting, want api.Errno) {
	t.Helper()
	if got, why := Scan(q, rows); why != want || !isZero(got) {
		t.Errorf("Scan(%s): %+v, %d; want %d", told(q), got, int(why), int(want))
		return
	}
	scansAsPlain(t, q, rows)
}

// read: the query of a text.
func read(t *testing.T, s string) api.Query {
	t.Helper()
	q, at, why := grammar.Parse(s)
	if why != api.OK {
		t.Fatalf("Parse(%q): %d, %d", s, at, int(why))
	}
	return q
}

// Nodes. What a node does not use is never looked at: here it is 0.
func num(n int64) api.Node     { return api.Node{Op: api.QNum, Num: n} }
func dayOf(n int64) api.Node   { return api.Node{Op: api.QDay, Num: n} }
func truth(n int64) api.Node   { return api.Node{Op: api.QBool, Num: n} }
func said(s string) api.Node   { return api.Node{Op: api.QText, Text: s} }
func fieldOf(f int) api.Node   { return api.Node{Op: api.QField, Field: f} }
func of(op, part int) api.Node { return api.Node{Op: op, Left: part} }
func pair(op, left, right int) api.Node {
	return api.Node{Op: op, Left: left, Right: right}
}

// leaf: an expression of one node.
func leaf(n api.Node) []api.Node { return []api.Node{n} }

// joined: an operation of two expressions, as an expression.
func joined(op int, left, right []api.Node) []api.Node {
	nodes := slices.Clone(left)
	for _, n := range right {
		n.Left, n.Right = n.Left+len(left), n.Right+len(left)
		nodes = append(nodes, n)
	}
	return append(nodes, pair(op, len(left)-1, len(nodes)-1))
}

// turned: an operation of one expression, as an expression.
func turned(op int, nodes []api.Node) []api.Node {
	return append(slices.Clone(nodes), of(op, len(nodes)-1))
}

// Cells.
func number(n int64) api.Cell { return api.Cell{Type: api.TNum, Num: n} }
func cash(n int64) api.Cell   { return api.Cell{Type: api.TMoney, Num: n} }
func date(n int64) api.Cell   { return api.Cell{Type: api.TDay, Num: n} }
func text(s string) api.Cell  { return api.Cell{Type: api.TText, Text: s} }
func yes() api.Cell           { return api.Cell{Type: api.TBool, Num: 1} }
func no() api.Cell            { return api.Cell{Type: api.TBool} }

// line: a table's row.
func line(cells ...api.Cell) []api.Cell { return cells }

// showing: the query that shows one aggregate of a node.
func showing(nodes []api.Node, kind, of int) api.Query {
	return api.Query{Nodes: nodes, Where: -1, Show: []api.Agg{{Kind: kind, Of: of}}, Limit: -1}
}

// counting: the query that counts the rows at which the last node is true.
func counting(nodes []api.Node) api.Query {
	q := showing(nodes, api.ACount, -1)
	q.Where = len(nodes) - 1
	return q
}

// worthAt: what the last node is worth at a row, as queries about it tell; the zero cell: over.
func worthAt(t *testing.T, nodes []api.Node, row api.Posting) api.Cell {
	t.Helper()
	types := nodeTypes(nodes)
	last := len(nodes) - 1
	if types[last] == api.TBool {
		got, why := Scan(counting(nodes), []api.Posting{row})
		if why == api.ErrOverflow && isZero(got) {
			return api.Cell{}
		}
		if why != api.OK || len(got.Rows) != 1 || got.Rows[0][0].Num < 0 || got.Rows[0][0].Num > 1 {
			t.Fatalf("%+v at %+v: %+v, %d", nodes, row, got, int(why))
		}
		return api.Cell{Type: api.TBool, Num: got.Rows[0][0].Num}
	}
	q := showing(nodes, api.AMin, last)
	q.Show = append(q.Show, api.Agg{Kind: api.AMax, Of: last})
	if types[last] == api.TNum || types[last] == api.TMoney {
		q.Show = append(q.Show, api.Agg{Kind: api.ASum, Of: last})
	}
	got, why := Scan(q, []api.Posting{row})
	if why == api.ErrOverflow && isZero(got) {
		return api.Cell{}
	}
	if why != api.OK || len(got.Rows) != 1 || len(got.Rows[0]) != len(q.Show) || got.Types[0] != types[last] {
		t.Fatalf("%+v at %+v: %+v, %d", nodes, row, got, int(why))
	}
	for _, c := range got.Rows[0] {
		if c != got.Rows[0][0] {
			t.Fatalf("%+v at %+v: the one value is told as %+v", nodes, row, got.Rows)
		}
	}
	return got.Rows[0][0]
}

// worths: the last node is worth this at a row (the zero cell: over), and the model says so too.
func worths(t *testing.T, want api.Cell, row api.Posting, nodes []api.Node) {
	t.Helper()
	if got := worthAt(t, nodes, row); got != want {
		t.Errorf("%+v at %+v: %+v; want %+v", nodes, row, got, want)
	}
	if got := plainWorthAt(nodes, row); got != want {
		t.Fatalf("the model: %+v at %+v: %+v; want %+v", nodes, row, got, want)
	}
}

// plainWorthAt: what the model says that the last node is worth.
func plainWorthAt(nodes []api.Node, row api.Posting) api.Cell {
	types := nodeTypes(nodes)
	last := len(nodes) - 1
	switch v := plainWorth(nodes, types, last, row).(type) {
	case nil:
		return api.Cell{}
	case bool:
		if v {
			return yes()
		}
		return no()
	default:
		return plainCell(types[last], v)
	}
}

// copied: the same query in memory of its own.
func copied(q api.Query) api.Query {
	q.Nodes, q.By, q.Show, q.Orders = slices.Clone(q.Nodes), slices.Clone(q.By), slices.Clone(q.Show), slices.Clone(q.Orders)
	return q
}

// same: two tables are alike to the last, memory apart.
func same(a, b any) bool { return reflect.DeepEqual(a, b) }

func source(seed uint64) *rand.Rand { return rand.New(rand.NewPCG(15, seed)) }

func pick[T any](r *rand.Rand, from ...T) T { return from[r.IntN(len(from))] }
