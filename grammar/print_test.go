package grammar

import (
	"math"
	"reflect"
	"slices"
	"strings"
	"testing"

	"daybook/api"
)

// writes: Print answers this text, and so does the model.
func writes(t *testing.T, q api.Query, want string) {
	t.Helper()
	if s, why := Print(q); why != api.OK || s != want {
		t.Errorf("Print(%+v): %q, %d; want %q", q, s, int(why), want)
		return
	}
	printsAsPlain(t, q)
}

// refuses: Print answers this error and no text.
func refuses(t *testing.T, what string, q api.Query, want api.Errno) {
	t.Helper()
	if s, why := Print(q); why != want || s != "" {
		t.Errorf("%s: Print of %d nodes: %q, %d; want %d", what, len(q.Nodes), s, int(why), int(want))
	}
}

// rich: a query that has all there is.
func rich() api.Query {
	q, _, _ := Parse("where not seq = 1 and -2 * 3 >= 4 - day or memo has 'it''s' and 2024-01-01 < day and true by root, month show count, sum(-amount), max((1 + 2) * 3) order 2 desc, 1 limit 10")
	return q
}

func TestP13_2Writing(t *testing.T) {
	writes(t, counts(), "show count")
	writes(t, counts(num(0)), "where 0 show count")
	writes(t, counts(num(api.MaxAmount)), "where 9223372036854775807 show count")
	writes(t, counts(dayOf(1)), "where 0001-01-01 show count")
	writes(t, counts(dayOf(api.MaxDay)), "where 9999-12-31 show count")
	writes(t, counts(truth(0)), "where false show count")
	writes(t, counts(truth(1)), "where true show count")
	for s, want := range map[string]string{"": "''", " ": "' '", "'": "''''", "it's": "'it''s'", "''": "''''''", "(a , b)": "'(a , b)'", "  -  ": "'  -  '", "~": "'~'"} {
		writes(t, counts(said(s)), "where "+want+" show count")
	}
	for i, name := range strings.Fields(fieldWords) {
		writes(t, counts(fieldOf(i+1)), "where "+name+" show count")
		q := counts()
		q.By = []int{i + 1, i + 1}
		writes(t, q, "by "+name+", "+name+" show count")
	}
	for op := api.QOr; op <= api.QMul; op++ {
		if op != api.QNot {
			writes(t, counts(num(1), num(2), between(op, 0, 1)), "where 1 "+signOf(op)+" 2 show count")
		}
	}
	writes(t, counts(num(1), of(api.QNot, 0), of(api.QNot, 1)), "where not not 1 show count")
	writes(t, counts(num(1), of(api.QNeg, 0), of(api.QNeg, 1)), "where --1 show count")
	writes(t, counts(num(1), num(2), of(api.QNeg, 1), between(api.QSub, 0, 2)), "where 1 - -2 show count")
	writes(t, counts(num(1), of(api.QNot, 0), of(api.QNeg, 1)), "where -(not 1) show count")
	writes(t, counts(num(1), of(api.QNeg, 0), of(api.QNot, 1)), "where not -1 show count")
	writes(t, rich(), "where not seq = 1 and -2 * 3 >= 4 - day or memo has 'it''s' and 2024-01-01 < day and true by root, month show count, sum(-amount), max((1 + 2) * 3) order 2 desc, 1 limit 10")
}

func TestP13_2OtherParts(t *testing.T) {
	q := api.Query{Nodes: []api.Node{num(1), num(2), num(3)}, Where: -1, Show: []api.Agg{{Kind: api.ASum, Of: 0}, {Kind: api.AMin, Of: 1}, {Kind: api.ACount, Of: -1}, {Kind: api.AMax, Of: 2}}, Limit: -1}
	writes(t, q, "show sum(1), min(2), count, max(3)")
	q.Orders = []api.Order{{Column: 0}, {Column: 98, Desc: true}, {Column: 0, Desc: true}}
	writes(t, q, "show sum(1), min(2), count, max(3) order 1, 99 desc, 1 desc")
	q.Limit = 0
	writes(t, q, "show sum(1), min(2), count, max(3) order 1, 99 desc, 1 desc limit 0")
	q.Limit, q.Orders = 999999999, []api.Order{}
	writes(t, q, "show sum(1), min(2), count, max(3) limit 999999999")
	q.Nodes, q.By, q.Where, q.Show[0].Of, q.Show[1].Of, q.Show[3].Of = append(q.Nodes, num(4)), []int{14, 1}, 0, 1, 2, 3
	writes(t, q, "where 1 by root, seq show sum(2), min(3), count, max(4) limit 999999999")
	empty := api.Query{Nodes: []api.Node{}, Where: -1, By: []int{}, Show: []api.Agg{{Kind: api.ACount, Of: -1}}, Orders: []api.Order{}, Limit: -1}
	writes(t, empty, "show count")
}

// Each operation as a part of each other one, on the left and on the right, and one deeper.
func TestP13_2Brackets(t *testing.T) {
	one := func(op int) *tree {
		x := &tree{api.Node{Op: op}, []*tree{leafOf(api.QNum, 1, "")}}
		if op != api.QNot && op != api.QNeg {
			x.parts = append(x.parts, leafOf(api.QNum, 2, ""))
		}
		return x
	}
	asked := func(x *tree) {
		for _, w := range []whole{{where: x, kinds: []int{1}, of: []*tree{nil}, limit: -1}, {kinds: []int{2}, of: []*tree{x}, limit: -1}} {
			s, _ := printsAsPlain(t, w.query())
			parses(t, s, w.query())
			bracketsAreNeeded(t, s, w.query())
		}
	}
	for op := api.QOr; op <= api.QNeg; op++ {
		for part := api.QOr; part <= api.QNeg; part++ {
			for i := range one(op).parts {
				x := one(op)
				x.parts[i] = one(part)
				asked(x)
				if op > api.QEq && op <= api.QHas || part > api.QEq && part <= api.QHas {
					continue // one deeper, one relation stands for all
				}
				for _, within := range []int{api.QOr, api.QAnd, api.QNot, api.QEq, api.QAdd, api.QSub, api.QMul, api.QNeg} {
					for j := range x.parts[i].parts {
						x.parts[i] = one(part)
						x.parts[i].parts[j] = one(within)
						asked(x)
					}
				}
			}
		}
	}
}

// bracketsAreNeeded: without a pair of brackets, but those of sum, min and max, the text is not read as the query.
func bracketsAreNeeded(t *testing.T, s string, q api.Query) {
	t.Helper()
	l := plainCut(s)
	var opened []int
	for i, k := range l {
		switch k.kind {
		case "(":
			opened = append(opened, i)
		case ")":
			from := l[opened[len(opened)-1]]
			ofAggregate := slices.Contains([]string{"sum", "min", "max"}, l[opened[len(opened)-1]-1].kind)
			opened = opened[:len(opened)-1]
			less := s[:from.at] + " " + s[from.at+1:k.at] + " " + s[k.at+1:]
			if got, _, why := Parse(less); !ofAggregate && why == api.OK && same(got, q) {
				t.Fatalf("%q has brackets that it does not need: %q", s, less)
			}
		}
	}
}

func TestP13_2BracketsByHand(t *testing.T) {
	for _, s := range []string{
		"(true or false) and true", "true and (true or false)", "not (true or false)", "not (true and false)", "true or (false or true)", "true and (false and true)",
		"(1 = 2) = 3", "1 = (2 = 3)", "1 = (not 2)", "(not 1) = 2", "(1 and 2) = 3", "1 < (2 or 3)", "(1 = 2) + 3", "1 - (2 under 3)", "(not 1) * 2", "1 * (2 and 3)", "-(1 = 2)", "-(not 1)", "-(1 or 2)",
		"(1 + 2) * 3", "1 * (2 - 3)", "-(1 + 2)", "-(1 - 2)", "-(1 * 2)", "1 + (2 + 3)", "1 - (2 + 3)", "1 + (2 - 3)", "1 - (2 - 3)", "1 * (2 * 3)",
		"true or false or true", "true and false and true", "1 + 2 - 3 + 4", "1 * 2 * 3", "true and false or true and false", "not true and not false", "not not true", "not 1 = 2", "1 + 2 = 3 * 4", "-1 * -2", "-1 + --2", "1 * 2 + 3 * 4",
		"-(-(1 + 2) * 3)", "not (not true or false)", "not (1 = 2 and 3 = 4) or 5 = 6",
	} {
		printed(t, conditioned(s), "")
		printed(t, "show max("+s+")", "")
	}
	for s, want := range map[string]string{
		"(true and false) or true": "true and false or true", "true or (true and false)": "true or true and false", "(true or false) or true": "true or false or true", "(true and false) and true": "true and false and true", "not (1 = 2)": "not 1 = 2", "not (not true)": "not not true",
		"(1 + 2) = (3 * 4)": "1 + 2 = 3 * 4", "(1 = 2) and (3 = 4)": "1 = 2 and 3 = 4", "(1 * 2) + (3 * 4)": "1 * 2 + 3 * 4", "(-1) * (-2)": "-1 * -2", "(1 * 2) * 3": "1 * 2 * 3", "(1 - 2) - 3": "1 - 2 - 3", "-(-1)": "--1", "-(1)": "-1", "((1))": "1", "(('a'))": "'a'", "(not true) or (not false)": "not true or not false", "(((1 + (((2))))))": "1 + 2",
	} {
		printed(t, conditioned(s), conditioned(want))
		printed(t, "show max("+s+")", "show max("+want+")")
	}
}

// wrongInts: what may stand in a field that is an int, and around what stands there.
func wrongInts(was, size int) []int64 {
	l := []int64{math.MinInt64, math.MinInt64 + 1, -1 << 32, -2, -1, 0, 1, 2, 3, 4, 5, 14, 15, 16, 20, 21, 98, 99, 100, 738886, api.MaxDay, api.MaxDay + 1, 999999999, 1000000000, 1<<32 + 1, math.MaxInt64}
	for n := was - 3; n <= was+3; n++ {
		l = append(l, int64(n))
	}
	return append(l, int64(size-1), int64(size), int64(size+1))
}

// changes: a query with each single field changed to each of many values.
func changes(q api.Query, each func(what string, q api.Query)) {
	field := func(what string, v reflect.Value) {
		was := reflect.ValueOf(v.Interface())
		switch v.Kind() {
		case reflect.Int, reflect.Int64:
			for _, n := range wrongInts(int(was.Int()), len(q.Nodes)) {
				v.SetInt(n)
				each(what, q)
			}
		case reflect.Bool:
			v.SetBool(!was.Bool())
			each(what, q)
		case reflect.String:
			for _, s := range []string{"", "a", "it's", " ", "~", "\x1f", "a\n", "\x7f", "\x80", "é", "\x00"} {
				v.SetString(s)
				each(what, q)
			}
		}
		v.Set(was)
	}
	fields := func(what string, v reflect.Value) {
		for i := range v.NumField() {
			field(what+"."+v.Type().Field(i).Name, v.Field(i))
		}
	}
	top := reflect.ValueOf(&q).Elem()
	fields("Query", top)
	for i := range q.By {
		field("By", top.FieldByName("By").Index(i))
	}
	for _, name := range []string{"Nodes", "Show", "Orders"} {
		for i := range top.FieldByName(name).Len() {
			fields(name, top.FieldByName(name).Index(i))
		}
	}
}

// What no text is read as is refused, and nothing else is: each single field of rich queries changed.
func TestP13_2EachField(t *testing.T) {
	list := []api.Query{rich(), counts(), counts(num(1)), counts(dayOf(1)), counts(said("a")), counts(truth(0)), counts(fieldOf(1)), counts(num(1), num(2), between(api.QEq, 0, 1))}
	r := source(2)
	for range 10 {
		list = append(list, anyWhole(r, 8).query())
	}
	answers, refused := map[api.Errno]int{}, map[string]int{}
	for _, q := range list {
		changes(copied(q), func(what string, q api.Query) {
			s, why := printsAsPlain(t, q)
			if answers[why]++; why == api.OK {
				parses(t, s, q)
			} else {
				refused[what]++
			}
		})
	}
	for _, what := range strings.Fields("Query.Where Query.Limit By Nodes.Op Nodes.Left Nodes.Right Nodes.Field Nodes.Num Nodes.Text Show.Kind Show.Of Orders.Column") {
		if refused[what] == 0 {
			t.Errorf("no %s was refused", what)
		}
	}
	if answers[api.OK] < 100 || answers[api.ErrSyntax] < 1000 || refused["Orders.Desc"] > 0 {
		t.Errorf("%v, %v", answers, refused)
	}
}

// Each of these by hand, at queries that are fine but for it.
func TestP13_2NotWellFormed(t *testing.T) {
	for _, x := range []struct {
		what string
		q    api.Query
	}{
		{"the zero query", api.Query{}},
		{"nothing shown", api.Query{Where: -1, Limit: -1}},
		{"Where of no node", api.Query{Where: 0, Show: []api.Agg{{Kind: api.ACount, Of: -1}}, Limit: -1}},
		{"Where -2", api.Query{Where: -2, Show: []api.Agg{{Kind: api.ACount, Of: -1}}, Limit: -1}},
		{"a node that nothing names", api.Query{Nodes: []api.Node{num(1)}, Where: -1, Show: []api.Agg{{Kind: api.ACount, Of: -1}}, Limit: -1}},
		{"a node ahead that nothing names", counts(num(1), num(2))},
		{"a node behind that nothing names", api.Query{Nodes: []api.Node{num(1), num(2)}, Where: 0, Show: []api.Agg{{Kind: api.ACount, Of: -1}}, Limit: -1}},
		{"a node that is two parts", counts(num(1), between(api.QAdd, 0, 0))},
		{"parts turned round", counts(num(1), num(2), between(api.QAdd, 1, 0))},
		{"a part that is another's part", counts(num(1), of(api.QNeg, 0), between(api.QAdd, 0, 1))},
		{"itself as a part", counts(of(api.QNot, 0))},
		{"a part behind", counts(of(api.QNot, 1), num(1))},
		{"no part", counts(of(api.QNot, -1))},
		{"one part of two", counts(num(1), between(api.QAdd, 0, -1))},
		{"the other part of two", counts(num(1), between(api.QAdd, -1, 0))},
		{"two parts of one", counts(num(1), num(2), between(api.QNeg, 0, 1))},
		{"the left part laid behind the right one's nodes", counts(num(1), num(2), num(3), of(api.QNeg, 1), between(api.QAdd, 3, 2))},
		{"Right of one part", counts(num(1), between(api.QNot, 0, 0))},
		{"Right 0 of a leaf", counts(api.Node{Op: api.QNum, Left: -1})},
		{"Left 0 of a leaf", counts(api.Node{Op: api.QNum, Right: -1})},
		{"Op 0", counts(api.Node{Left: -1, Right: -1})},
		{"Op 21", counts(api.Node{Op: 21, Left: -1, Right: -1})},
		{"Op -1", counts(api.Node{Op: -1, Left: -1, Right: -1})},
		{"Field 0", counts(fieldOf(0))},
		{"Field 15", counts(fieldOf(15))},
		{"a number below 0", counts(num(-1))},
		{"the least number", counts(num(math.MinInt64))},
		{"day 0", counts(dayOf(0))},
		{"the day behind the last", counts(dayOf(api.MaxDay + 1))},
		{"a truth of 2", counts(truth(2))},
		{"a truth of -1", counts(truth(-1))},
		{"a text with a byte 31", counts(said("a\x1f"))},
		{"a text with a byte 127", counts(said("\x7fa"))},
		{"a text beyond ASCII", counts(said("é"))},
		{"a field with a number", counts(api.Node{Op: api.QField, Left: -1, Right: -1, Field: 1, Num: 1})},
		{"a number with a field", counts(api.Node{Op: api.QNum, Left: -1, Right: -1, Field: 1, Num: 1})},
		{"a text with a number", counts(api.Node{Op: api.QText, Left: -1, Right: -1, Num: 1, Text: "a"})},
		{"a day with a text", counts(api.Node{Op: api.QDay, Left: -1, Right: -1, Num: 1, Text: "a"})},
		{"an operation with a number", counts(num(1), api.Node{Op: api.QNeg, Left: 0, Right: -1, Num: 1})},
		{"an operation with a text", counts(num(1), num(1), api.Node{Op: api.QEq, Left: 0, Right: 1, Text: "a"})},
		{"an operation with a field", counts(num(1), num(1), api.Node{Op: api.QOr, Left: 0, Right: 1, Field: 1})},
		{"aggregates in another order", api.Query{Nodes: []api.Node{num(1), num(2)}, Where: -1, Show: []api.Agg{{Kind: api.ASum, Of: 1}, {Kind: api.ASum, Of: 0}}, Limit: -1}},
		{"an expression that is shown twice", api.Query{Nodes: []api.Node{num(1)}, Where: -1, Show: []api.Agg{{Kind: api.ASum, Of: 0}, {Kind: api.ASum, Of: 0}}, Limit: -1}},
		{"the condition that is shown", api.Query{Nodes: []api.Node{num(1)}, Where: 0, Show: []api.Agg{{Kind: api.ASum, Of: 0}}, Limit: -1}},
		{"the condition behind what is shown", api.Query{Nodes: []api.Node{num(1), num(2)}, Where: 1, Show: []api.Agg{{Kind: api.ASum, Of: 0}}, Limit: -1}},
		{"a part that is shown", api.Query{Nodes: []api.Node{num(1), of(api.QNeg, 0)}, Where: -1, Show: []api.Agg{{Kind: api.ASum, Of: 0}}, Limit: -1}},
		{"a count of a node", api.Query{Nodes: []api.Node{num(1)}, Where: -1, Show: []api.Agg{{Kind: api.ACount, Of: 0}}, Limit: -1}},
		{"a sum of none", api.Query{Where: -1, Show: []api.Agg{{Kind: api.ASum, Of: -1}}, Limit: -1}},
	} {
		refuses(t, x.what, x.q, api.ErrSyntax)
		printsAsPlain(t, x.q)
	}
	for what, change := range map[string]func(q *api.Query){
		"Limit -2":         func(q *api.Query) { q.Limit = -2 },
		"Limit 1000000000": func(q *api.Query) { q.Limit = 1000000000 },
		"By 0":             func(q *api.Query) { q.By = []int{1, 0} },
		"By 15":            func(q *api.Query) { q.By = []int{15, 1} },
		"By -1":            func(q *api.Query) { q.By = []int{-1} },
		"Column -1":        func(q *api.Query) { q.Orders = []api.Order{{Column: 0}, {Column: -1}} },
		"Column 99":        func(q *api.Query) { q.Orders = []api.Order{{Column: 99}} },
		"Kind 0":           func(q *api.Query) { q.Show = append(q.Show, api.Agg{Kind: 0, Of: -1}) },
		"Kind 5":           func(q *api.Query) { q.Show = append(q.Show, api.Agg{Kind: 5, Of: -1}) },
		"Of -2":            func(q *api.Query) { q.Show[0].Of = -2 },
	} {
		q := counts(num(1))
		writes(t, q, "where 1 show count")
		change(&q)
		refuses(t, what, q, api.ErrSyntax)
		printsAsPlain(t, q)
	}
}

// under: n operations of one part each, as a condition.
func under(op, n int) api.Query {
	nodes := []api.Node{num(1)}
	for i := range n {
		nodes = append(nodes, of(op, i))
	}
	return counts(nodes...)
}

// leftward: n operations of two parts, each the left part of the next; rightward: the right part.
func leftward(op, n int) api.Query {
	nodes := []api.Node{num(1)}
	for range n {
		nodes = append(nodes, num(1), between(op, len(nodes)-1, len(nodes)))
	}
	return counts(nodes...)
}

func rightward(op, n int) api.Query {
	nodes := slices.Repeat([]api.Node{num(1)}, n+1)
	for i := range n {
		nodes = append(nodes, between(op, n-1-i, n+i))
	}
	return counts(nodes...)
}

// summed: the condition as what is summed instead.
func summed(q api.Query) api.Query {
	q.Show = []api.Agg{{Kind: api.ASum, Of: q.Where}}
	q.Where = -1
	return q
}

func TestP13_2Depth(t *testing.T) {
	for _, op := range []int{api.QNot, api.QNeg} {
		s := strings.Repeat(map[int]string{api.QNot: "not ", api.QNeg: "-"}[op], 16) + "1"
		writes(t, under(op, 16), conditioned(s))
		refuses(t, "17 of one part", under(op, 17), api.ErrDeep)
		writes(t, summed(under(op, 15)), "show sum("+s[len(s)/16:]+")")
		refuses(t, "16 of one part in sum", summed(under(op, 16)), api.ErrDeep)
	}
	// n of these need n-1 brackets on the right, and none on the left.
	for _, op := range []int{api.QOr, api.QAnd, api.QAdd, api.QSub, api.QMul} {
		s := strings.Repeat("1 "+signOf(op)+" (", 16) + "1 " + signOf(op) + " 1" + strings.Repeat(")", 16)
		writes(t, rightward(op, 17), conditioned(s))
		refuses(t, "18 on the right", rightward(op, 18), api.ErrDeep)
		refuses(t, "17 on the right in sum", summed(rightward(op, 17)), api.ErrDeep)
		writes(t, leftward(op, 30), conditioned("1"+strings.Repeat(" "+signOf(op)+" 1", 30)))
	}
	// A relation needs them on both sides.
	for _, op := range []int{api.QEq, api.QUnder} {
		printsAsPlain(t, leftward(op, 17))
		refuses(t, "18 on the left", leftward(op, 18), api.ErrDeep)
		refuses(t, "18 on the right", rightward(op, 18), api.ErrDeep)
	}
	// Signs round sums: each is a sign and a bracket.
	q := counts(num(1))
	for range 8 {
		n := len(q.Nodes)
		q = counts(append(q.Nodes, num(1), between(api.QAdd, n-1, n), of(api.QNeg, n+1))...)
	}
	if _, why := printsAsPlain(t, q); why != api.OK {
		t.Errorf("8 signs round sums: %d", int(why))
	}
	refuses(t, "8 signs round sums in sum", summed(q), api.ErrDeep)
	refuses(t, "a sign more", counts(append(q.Nodes, of(api.QNeg, len(q.Nodes)-1))...), api.ErrDeep)
}

func TestP13_2Parts(t *testing.T) {
	q := leftward(api.QMul, 99) // 199 nodes
	writes(t, q, conditioned("1"+strings.Repeat(" * 1", 99)))
	q = counts(append(q.Nodes, of(api.QNot, 198))...)
	writes(t, q, conditioned("not 1"+strings.Repeat(" * 1", 99)))
	refuses(t, "201 nodes", counts(append(q.Nodes, of(api.QNot, 199))...), api.ErrDeep)
	refuses(t, "201 nodes", leftward(api.QAdd, 100), api.ErrDeep)
	q.Show, q.Nodes = []api.Agg{{Kind: api.ASum, Of: 200}}, append(q.Nodes, num(1))
	refuses(t, "200 nodes and one more", q, api.ErrDeep)
	// By, Orders and counts are no nodes.
	q = counts(append(leftward(api.QMul, 99).Nodes, of(api.QNot, 198))...)
	q.By, q.Show, q.Orders = []int{1, 2, 3}, slices.Repeat(q.Show, 3), []api.Order{{Column: 1}, {Column: 2}}
	writes(t, q, "where not 1"+strings.Repeat(" * 1", 99)+" by seq, line, day show count, count, count order 2, 3")
}

func TestP13_2Length(t *testing.T) {
	text := func(n int) api.Query { return counts(said(strings.Repeat("x", n-len(conditioned("''"))))) }
	if s, why := printsAsPlain(t, text(600)); why != api.OK || len(s) != 600 {
		t.Errorf("600 bytes: %d, %d", len(s), int(why))
	}
	refuses(t, "601 bytes", text(601), api.ErrLong)
	refuses(t, "a long text", text(1<<20), api.ErrLong)
	if s, why := printsAsPlain(t, counts(said(strings.Repeat("'", 290)))); why != api.OK || len(s) != 599 {
		t.Errorf("290 quotes: %d, %d", len(s), int(why))
	}
	refuses(t, "291 quotes", counts(said(strings.Repeat("'", 291))), api.ErrLong)
	for what, change := range map[string]func(q *api.Query, n int){
		"By":     func(q *api.Query, n int) { q.By = slices.Repeat([]int{api.FTag}, n) },
		"Show":   func(q *api.Query, n int) { q.Show = slices.Repeat(q.Show, n) },
		"Orders": func(q *api.Query, n int) { q.Orders = slices.Repeat([]api.Order{{Column: 1, Desc: true}}, n) },
	} {
		var last api.Errno
		for n := 1; n < 150; n++ {
			q := counts()
			change(&q, n)
			if _, why := printsAsPlain(t, q); why != last && why != api.ErrLong {
				t.Errorf("%s %d: %d", what, n, int(why))
			} else {
				last = why
			}
		}
		if last != api.ErrLong {
			t.Errorf("%s is never too long", what)
		}
		q := counts()
		change(&q, 1<<20)
		refuses(t, what, q, api.ErrLong)
	}
}

// The error that comes first: ErrSyntax, ErrDeep, ErrLong.
func TestP13_2FirstError(t *testing.T) {
	long := strings.Repeat("x", 700)
	deepAndLong := under(api.QNot, 17)
	deepAndLong.Nodes[0] = said(long)
	refuses(t, "deep and long", deepAndLong, api.ErrDeep)
	manyAndLong := leftward(api.QAnd, 100)
	manyAndLong.Nodes[0] = said(long)
	refuses(t, "many and long", manyAndLong, api.ErrDeep)
	both := under(api.QNot, 300)
	refuses(t, "deep and many", both, api.ErrDeep)
	for _, q := range []api.Query{deepAndLong, manyAndLong, both} {
		q.Limit = -2
		refuses(t, "a Limit too", q, api.ErrSyntax)
		q.Limit = -1
		q.Where--
		refuses(t, "a Where too", q, api.ErrSyntax)
		q.Where++
		q.Orders = []api.Order{{Column: 99}}
		refuses(t, "a Column too", q, api.ErrSyntax)
	}
	bad := counts(said(long + "\n"))
	refuses(t, "long and no text", bad, api.ErrSyntax)
	deepAndLong.Nodes[0].Text += "\n"
	refuses(t, "deep, long and no text", deepAndLong, api.ErrSyntax)
}

// However deep the nodes lead, it ends.
func TestP13_2Ends(t *testing.T) {
	const n = 1 << 18
	for what, q := range map[string]api.Query{"not": under(api.QNot, n), "sign": under(api.QNeg, n), "left": leftward(api.QAdd, n), "right": rightward(api.QEq, n)} {
		refuses(t, what, q, api.ErrDeep)
		refuses(t, what, summed(q), api.ErrDeep)
		q.Nodes[0].Text = "a"
		refuses(t, what, q, api.ErrSyntax)
	}
}
