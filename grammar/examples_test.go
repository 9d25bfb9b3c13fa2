package grammar

import (
	"strings"
	"testing"

	"daybook/api"
)

// Nodes, as they are read.
func num(n int64) api.Node     { return api.Node{Op: api.QNum, Left: -1, Right: -1, Num: n} }
func dayOf(n int64) api.Node   { return api.Node{Op: api.QDay, Left: -1, Right: -1, Num: n} }
func truth(n int64) api.Node   { return api.Node{Op: api.QBool, Left: -1, Right: -1, Num: n} }
func said(s string) api.Node   { return api.Node{Op: api.QText, Left: -1, Right: -1, Text: s} }
func fieldOf(f int) api.Node   { return api.Node{Op: api.QField, Left: -1, Right: -1, Field: f} }
func of(op, part int) api.Node { return api.Node{Op: op, Left: part, Right: -1} }
func between(op, left, right int) api.Node {
	return api.Node{Op: op, Left: left, Right: right}
}

// counts: the query that shows count, with nodes of which the last one is the condition.
func counts(nodes ...api.Node) api.Query {
	return api.Query{Nodes: nodes, Where: len(nodes) - 1, Show: []api.Agg{{Kind: api.ACount, Of: -1}}, Limit: -1}
}

// parses: Parse answers this query, and so does the model.
func parses(t *testing.T, s string, want api.Query) {
	t.Helper()
	if q, at, why := Parse(s); why != api.OK || at != 0 || !same(q, want) {
		t.Errorf("Parse(%q): %+v, %d, %d; want %+v", s, q, at, int(why), want)
		return
	}
	parsesAsPlain(t, s)
}

// fails: Parse answers this error at this place, and so does the model.
func fails(t *testing.T, s string, at int, why api.Errno) {
	t.Helper()
	if q, gotAt, got := Parse(s); got != why || gotAt != at || !same(q, api.Query{}) {
		t.Errorf("Parse(%q): %+v, %d, %d; want %d, %d", s, q, gotAt, int(got), at, int(why))
		return
	}
	parsesAsPlain(t, s)
}

// printed: what s is read as is printed as want; of an empty want as s itself.
func printed(t *testing.T, s, want string) {
	t.Helper()
	if want == "" {
		want = s
	}
	q, at, why := Parse(s)
	if why != api.OK {
		t.Errorf("Parse(%q): %d, %d", s, at, int(why))
		return
	}
	if got, why := Print(q); why != api.OK || got != want {
		t.Errorf("Print of %q: %q, %d; want %q", s, got, int(why), want)
		return
	}
	printsAsPlain(t, q)
}

func TestExample0TheFirstText(t *testing.T) {
	s := "where account under 'assets' and day >= 2024-01-01 by root, month show count, sum(amount) order 4 desc, 1 limit 10"
	parses(t, s, api.Query{
		Nodes: []api.Node{
			fieldOf(api.FAccount), said("assets"), between(api.QUnder, 0, 1), fieldOf(api.FDay), dayOf(738886), between(api.QGe, 3, 4), between(api.QAnd, 2, 5),
			fieldOf(api.FAmount),
		},
		Where:  6,
		By:     []int{api.FRoot, api.FMonth},
		Show:   []api.Agg{{Kind: api.ACount, Of: -1}, {Kind: api.ASum, Of: 7}},
		Orders: []api.Order{{Column: 3, Desc: true}, {Column: 0}},
		Limit:  10,
	})
	printed(t, s, "")
}

func TestExample1Count(t *testing.T) {
	parses(t, "show count", counts())
	printed(t, "show count", "")
}

func TestExample2Nodes(t *testing.T) {
	s := "where 1 + 2 * 3 = 7 show count"
	parses(t, s, counts(num(1), num(2), num(3), between(api.QMul, 1, 2), between(api.QAdd, 0, 3), num(7), between(api.QEq, 4, 5)))
	printed(t, s, "")
}

func TestExample3Syntax(t *testing.T) {
	fails(t, "where not (a", 11, api.ErrSyntax)
	fails(t, "where", 5, api.ErrSyntax)
	fails(t, "show count count", 11, api.ErrSyntax)
	fails(t, "show sum(amount", 15, api.ErrSyntax)
	fails(t, "", 0, api.ErrSyntax)
}

func TestExample4DaysAndNumbers(t *testing.T) {
	fails(t, "where day = 2024-02-30 show count", 12, api.ErrSyntax)
	minus := func(n int64) api.Query {
		return counts(num(2024), num(2), between(api.QSub, 0, 1), num(n), between(api.QSub, 2, 3), num(1), between(api.QEq, 4, 5))
	}
	parses(t, "where 2024-02-3 = 1 show count", minus(3))
	parses(t, "where 2024-02-011 = 1 show count", minus(11))
	fails(t, "where seq = 9223372036854775808 show count", 12, api.ErrSyntax)
}

func TestExample5Texts(t *testing.T) {
	parses(t, "where memo has 'it''s' show count", counts(fieldOf(api.FMemo), said("it's"), between(api.QHas, 0, 1)))
	printed(t, "where memo has 'it''s' show count", "")
	fails(t, "where memo = ' show count", 13, api.ErrSyntax)
}

func TestExample6Relations(t *testing.T) {
	fails(t, "where 1 = 2 = 3 show count", 12, api.ErrSyntax)
	s := "where (1 = 2) = true show count"
	parses(t, s, counts(num(1), num(2), between(api.QEq, 0, 1), truth(1), between(api.QEq, 2, 3)))
	printed(t, s, "")
}

func TestExample7Writing(t *testing.T) {
	fails(t, "WHERE", 0, api.ErrSyntax)
	printed(t, "show min ( - - amount )", "show min(--amount)")
	printed(t, "show count order 1 asc, 2 desc limit 007", "show count order 1, 2 desc limit 7")
	fails(t, "show count order 0", 17, api.ErrSyntax)
	fails(t, "show count order 100", 17, api.ErrSyntax)
}

func TestExample8Depth(t *testing.T) {
	s := "where " + strings.Repeat("(", 17) + "seq" + strings.Repeat(")", 17) + " show count"
	fails(t, s, 6+16, api.ErrDeep)
	fails(t, "show sum("+strings.Repeat("(", 16), 9+15, api.ErrDeep)
}

func TestExample9Brackets(t *testing.T) {
	printed(t, "where (1 + 2) + 3 = 6 show count", "where 1 + 2 + 3 = 6 show count")
	for _, kept := range []string{"1 + (2 + 3)", "not (true and false)", "-(1 + 2)", "-(2 * 3)"} {
		printed(t, "where "+kept+" show count", "")
	}
	printed(t, "where (-2) * 3 show count", "where -2 * 3 show count")
	printed(t, "where (not true) and false show count", "where not true and false show count")
}
