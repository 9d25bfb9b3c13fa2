package answer

import (
	"math"
	"slices"
	"strconv"
	"strings"
	"testing"

	"daybook/api"
	"daybook/day"
	"daybook/rebuild"
	"daybook/typing"
)

// asked: what Ask answers, which Scan of the books' rows, the model and, where the plan is no scan, Quick answer too.
func asked(t *testing.T, q api.Query, s *rebuild.Set) (api.Table, api.Errno) {
	t.Helper()
	want, why := scansAsPlain(t, q, s.Book().Base().Rows)
	got, gotWhy := Ask(q, s)
	if gotWhy != why || !alike(got, want) {
		t.Fatalf("Ask(%s): %+v, %d; Scan: %+v, %d", told(q), got, int(gotWhy), want, int(why))
	}
	fast, is, fastWhy := Quick(q, s)
	if quick := typing.Plan(q) != typing.ByScan; is != quick || fastWhy != api.OK || is && !alike(fast, want) || !is && !isZero(fast) {
		t.Fatalf("Quick(%s): %+v, %v, %d; want %+v, %v", told(q), fast, is, int(fastWhy), want, quick)
	}
	return got, gotWhy
}

// sumsTo: a query's plan, and the one sum that it is answered with.
func sumsTo(t *testing.T, s *rebuild.Set, plan int, text string, want int64) {
	t.Helper()
	q := read(t, text)
	if got := typing.Plan(q); got != plan {
		t.Fatalf("Plan(%s): %d; want %d", text, got, plan)
	}
	if got, why := asked(t, q, s); why != api.OK || len(got.Rows) != 1 || !slices.Equal(got.Rows[0], line(cash(want))) || !slices.Equal(got.Types, []int{api.TMoney}) {
		t.Errorf("%s: %+v, %d; want %d", text, got, int(why), want)
	}
}

// moves: a set with rows of A on the days 10, 12 and 15, of A:B on 12, and of A-1 and I.
func moves(t *testing.T) *rebuild.Set {
	t.Helper()
	return behind(t, []api.Event{
		open(1, "A", api.Asset), open(1, "A:B", 0), open(1, "A:B:C", 0), open(1, "A-1", api.Asset), open(1, "I", api.Income),
		post(10, "a", leg("A", 1), leg("I", -1)),
		post(15, "b", leg("A", 1000), leg("I", -1000)),
		post(12, "c", leg("A", 10), leg("A", 20), leg("I", -30)),
		post(12, "e", leg("A:B", 5000), leg("A-1", -5000)),
		post(13, "f", leg("A:B:C", 70000), leg("I", -70000)),
	})
}

func TestP15_2BySums(t *testing.T) {
	s := moves(t)
	sumsTo(t, s, typing.BySums, "show sum(amount)", 0)
	for account, want := range map[string][2]int64{
		"A": {1031, 76031}, "A:B": {5000, 75000}, "A:B:C": {70000, 70000}, "A-1": {-5000, -5000}, "I": {-71031, -71031},
		"": {}, "x y": {}, "a": {}, "A:": {}, "A:b": {}, ":A": {}, "A:B:C:D": {}, "B": {}, "A:C": {}, "A:B:C:D:E:F:G": {}, "''": {},
	} {
		sumsTo(t, s, typing.BySums, "where account = '"+account+"' show sum(amount)", want[0])
		sumsTo(t, s, typing.BySums, "where account under '"+account+"' show sum(amount)", want[1])
		sumsTo(t, s, typing.ByScan, "where '"+account+"' = account show sum(amount)", want[0])
		sumsTo(t, s, typing.ByScan, "where account under '"+account+"' and true show sum(amount)", want[1])
	}
}

// dated: a day's text.
func dated(n int) string {
	s, _ := day.Print(n)
	return s
}

// Each Op at each day, alone and two of them together.
func TestP15_2ByDaily(t *testing.T) {
	s := moves(t)
	changes := map[int]int64{10: 1, 12: 30, 15: 1000}
	lets := map[string]func(a, b int) bool{
		"=": func(a, b int) bool { return a == b }, "<": func(a, b int) bool { return a < b }, "<=": func(a, b int) bool { return a <= b },
		">": func(a, b int) bool { return a > b }, ">=": func(a, b int) bool { return a >= b },
	}
	days := []int{1, 2, 9, 10, 11, 12, 13, 14, 15, 16, lastDay - 1, lastDay}
	for op, let := range lets {
		for _, n := range days {
			want := int64(0)
			for at, change := range changes {
				if let(at, n) {
					want += change
				}
			}
			sumsTo(t, s, typing.ByDaily, "where account = 'A' and day "+op+" "+dated(n)+" show sum(amount)", want)
			sumsTo(t, s, typing.ByDaily, "where day "+op+" "+dated(n)+" and account = 'x y' show sum(amount)", 0)
		}
	}
	for op1, let1 := range lets {
		for op2, let2 := range lets {
			for _, n := range days {
				for _, m := range days {
					want := int64(0)
					for at, change := range changes {
						if let1(at, n) && let2(at, m) {
							want += change
						}
					}
					sumsTo(t, s, typing.ByDaily, "where day "+op1+" "+dated(n)+" and account = 'A' and day "+op2+" "+dated(m)+" show sum(amount)", want)
				}
			}
		}
	}
}

// Many parts, in all shapes, some of them reached again and again.
func TestP15_2ByDailyShapes(t *testing.T) {
	s := moves(t)
	for text, want := range map[string]int64{
		"day > 0001-01-10 and (day < 0001-01-15 and account = 'A')":                                     30,
		"((account = 'A' and day >= 0001-01-01) and day <= 9999-12-31) and day = 0001-01-15":            1000,
		"(day >= 0001-01-10 and day >= 0001-01-11) and (day <= 0001-01-13 and account = 'A')":           30,
		"(day >= 0001-01-11 and day >= 0001-01-10) and (account = 'A' and day <= 0001-01-13)":           30,
		"day <= 0001-01-10 and day <= 0001-01-12 and account = 'A'":                                     1,
		"day < 0001-01-13 and day < 0001-01-12 and account = 'A'":                                       1,
		"day = 0001-01-10 and day = 0001-01-12 and account = 'A'":                                       0,
		"day = 0001-01-12 and day = 0001-01-12 and account = 'A'":                                       30,
		"day > 0001-01-15 and day < 0001-01-10 and account = 'A'":                                       0,
		"day > 0001-01-12 and day < 0001-01-13 and account = 'A'":                                       0,
		"day < 0001-01-01 and account = 'A'":                                                            0,
		"day > 9999-12-31 and account = 'A'":                                                            0,
		"day < 0001-01-01 and day > 9999-12-31 and account = 'A'":                                       0,
		"day >= 0001-01-01 and day <= 9999-12-31 and account = 'A'":                                     1031,
		"day >= 9999-12-31 and account = 'A'":                                                           0,
		"account = 'A:B' and day = 0001-01-12":                                                          5000,
		"account = 'A-1' and day <= 0001-01-12":                                                         -5000,
		"account = 'A-1' and day < 0001-01-12":                                                          0,
		"account = 'I' and day >= 0001-01-12":                                                           -71030,
		"account = 'I' and day > 0001-01-12 and day < 0001-01-15 and day <> 0001-01-01 and 1 = 1":       -70000,
		"account = 'I' and (day = 0001-01-12 or day = 0001-01-15)":                                      -1030,
		"account = 'A' and account = 'A' and day = 0001-01-12":                                          30,
		"account = 'A' and account under 'A' and day = 0001-01-12":                                      30,
		"account under 'A' and day = 0001-01-12":                                                        5030,
		"account = 'A' and 0001-01-12 >= day":                                                           31,
		"not (account <> 'A' or day > 0001-01-12)":                                                      31,
		"account = 'A' and day + 1 = 0001-01-13":                                                        30,
		"account = 'I' and month = 101 and year = 1":                                                    -71031,
		"account = 'A' and day >= 0001-01-01 and day >= 0001-01-12 and day > 0001-01-12":                1000,
		"(account = 'A' and day > 0001-01-09) and (day > 0001-01-11 and (day > 0001-01-10 and true))":   1030,
		"account = 'A' and (day = 0001-01-10 and (day = 0001-01-10 and (day = 0001-01-10 and 1 < 2)))":  1,
		"(((day = 0001-01-10 and day = 0001-01-10) and day = 0001-01-10) and account = 'A') and 2 >= 2": 1,
	} {
		q := read(t, "where "+text+" show sum(amount)")
		sumsTo(t, s, typing.Plan(q), "where "+text+" show sum(amount)", want)
	}
	// One part under very many ways: each And names the one ahead of it twice.
	nodes := append(joined(api.QGe, leaf(fieldOf(api.FDay)), leaf(dayOf(11))), joined(api.QEq, leaf(fieldOf(api.FAccount)), leaf(said("A")))...)
	nodes[5].Left, nodes[5].Right = 3, 4
	nodes = append(nodes, fieldOf(api.FAmount), pair(api.QAnd, 2, 2))
	for range 3000 {
		nodes = append(nodes, pair(api.QAnd, len(nodes)-1, len(nodes)-1))
	}
	nodes = append(nodes, pair(api.QAnd, len(nodes)-1, 5))
	q := showing(nodes, api.ASum, 6)
	q.Where = len(nodes) - 1
	if got, is, why := Quick(q, s); !is || why != api.OK || !slices.Equal(got.Rows[0], line(cash(1030))) {
		t.Errorf("%+v, %v, %d", got, is, int(why))
	}
	if got, why := Ask(q, s); why != api.OK || !slices.Equal(got.Rows[0], line(cash(1030))) {
		t.Errorf("%+v, %d", got, int(why))
	}
	if got, why := Scan(q, s.Book().Base().Rows); why != api.OK || !slices.Equal(got.Rows[0], line(cash(1030))) {
		t.Errorf("%+v, %d", got, int(why))
	}
}

// Several columns, Orders, each Limit.
func TestP15_2Columns(t *testing.T) {
	s := moves(t)
	for where, want := range map[string]int64{"": 0, "where account = 'A'": 1031, "where account under 'A'": 76031, "where account = 'A' and day = 0001-01-12": 30, "where account = 'A' and day < 0001-01-01": 0} {
		for columns := 1; columns <= 5; columns++ {
			show := "sum(amount)" + strings.Repeat(", sum(amount)", columns-1)
			for _, order := range []string{"", " order 1", " order 1 desc, 1", " order " + strconv.Itoa(columns) + " desc"} {
				q := read(t, where+" show "+show+order)
				if typing.Plan(q) == typing.ByScan {
					t.Fatalf("Plan(%s)", told(q))
				}
				types, row := slices.Repeat([]int{api.TMoney}, columns), slices.Repeat(line(cash(want)), columns)
				for limit, rows := range map[int][][]api.Cell{-1: {row}, 0: nil, 1: {row}, 2: {row}, 1 << 40: {row}, math.MaxInt: {row}} {
					q.Limit = limit
					if got, why := asked(t, q, s); why != api.OK || !alike(got, api.Table{Types: types, Rows: rows}) {
						t.Errorf("%s: %+v, %d", told(q), got, int(why))
					}
				}
			}
		}
	}
	// One node, or a node for each column.
	q := read(t, "show sum(amount), sum(amount)")
	q.Show[0].Of = 1
	if got, why := asked(t, q, s); why != api.OK || !slices.Equal(got.Rows[0], line(cash(0), cash(0))) {
		t.Errorf("%+v, %d", got, int(why))
	}
	// What is over and not asked for: a node that nothing names.
	q = read(t, "where account = 'A' show sum(amount)")
	q.Nodes = append(q.Nodes, num(least))
	if got, why := asked(t, q, s); why != api.OK || !slices.Equal(got.Rows[0], line(cash(1031))) {
		t.Errorf("%+v, %d", got, int(why))
	}
}

// Queries that no view answers; those that mean nothing are among them.
func TestP15_2ByScan(t *testing.T) {
	s := moves(t)
	for _, text := range []string{
		"show count", "show sum(debit)", "show sum(credit)", "show sum(-amount)", "show sum(amount * 1)", "show sum(amount), count", "show max(amount)", "show min(amount), sum(amount)", "by account show sum(amount)",
		"by day show sum(amount)", "where true show sum(amount)", "where account <> 'A' show sum(amount)", "where account has 'A' show sum(amount)", "where account < 'A' show sum(amount)", "where day = 0001-01-12 show sum(amount)",
		"where account under 'A' and day = 0001-01-12 show sum(amount)", "where key = 'a' show sum(amount)", "where root = 'A' show sum(amount)", "where account = key show sum(amount)", "where not account = 'A' show sum(amount)",
		"where account = 'A' or account = 'I' show sum(amount)", "where account = 'A' and account = 'I' show sum(amount)", "where account = 'A' and day <> 0001-01-12 show sum(amount)", "where account = 'A' and month = 101 show sum(amount)",
		"where account = 'A' and day < 0001-01-12 + 1 show sum(amount)", "where account = 'A' and amount > 0 show sum(amount)", "where amount * 9223372036854775807 > 0 show sum(amount)",
		"show sum(day)", "where day > 5 show sum(amount)", "where account = 5 show sum(amount)", "show sum(amount) order 2",
	} {
		q := read(t, text)
		if got, is, why := Quick(q, s); is || why != api.OK || !isZero(got) {
			t.Errorf("Quick(%s): %+v, %v, %d", text, got, is, int(why))
		}
		asked(t, q, s)
	}
	for _, q := range []api.Query{{}, {Where: -1, Limit: -1}, {Where: -5, Limit: -1, Show: []api.Agg{{Kind: api.ACount}}}, {Where: -1, Limit: -2, Nodes: leaf(fieldOf(api.FAmount)), Show: []api.Agg{{Kind: api.ASum}}}} {
		if got, is, why := Quick(q, s); is || why != api.OK || !isZero(got) {
			t.Errorf("Quick(%+v): %+v, %v, %d", q, got, is, int(why))
		}
		if got, why := Ask(q, s); why != api.ErrTyping || !isZero(got) {
			t.Errorf("Ask(%+v): %+v, %d", q, got, int(why))
		}
	}
}

// Ask's errors are Scan's.
func TestP15_3Errors(t *testing.T) {
	s := moves(t)
	for text, want := range map[string]api.Errno{
		"show sum(day)": api.ErrTyping, "where day show count": api.ErrTyping, "show sum(amount * 9223372036854775807)": api.ErrOverflow, "where day + 3652058 > day show count": api.ErrOverflow,
		"show sum(amount * 131072000000000)": api.OK, "by account show sum(amount * 131072000000000) limit 0": api.ErrOverflow, "show sum(amount * 100000000000000)": api.OK,
		"by account show sum(amount)": api.OK, "show max(day)": api.OK, "show sum(amount)": api.OK,
	} {
		got, why := asked(t, read(t, text), s)
		if why != want || (why != api.OK) != isZero(got) {
			t.Errorf("%s: %+v, %d; want %d", text, got, int(why), int(want))
		}
	}
}

// The sets of no events.
func TestP15_2NoEvents(t *testing.T) {
	for _, s := range []*rebuild.Set{rebuild.New(), behind(t, opened())} {
		sumsTo(t, s, typing.BySums, "show sum(amount)", 0)
		sumsTo(t, s, typing.BySums, "where account = 'Assets' show sum(amount)", 0)
		sumsTo(t, s, typing.BySums, "where account under 'Assets' show sum(amount)", 0)
		sumsTo(t, s, typing.ByDaily, "where account = 'Assets' and day <= 9999-12-31 show sum(amount)", 0)
		for text, want := range map[string]int{"show count": 1, "show max(day)": 0, "by account show sum(amount)": 0} {
			if got, why := asked(t, read(t, text), s); why != api.OK || len(got.Rows) != want {
				t.Errorf("%s: %+v, %d", text, got, int(why))
			}
		}
	}
}

// Amounts as great as books take: no sum of them is over.
func TestP15_2GreatestTurnover(t *testing.T) {
	half := int64(greatest / 2)
	s := behind(t, append(opened(), post(d, "a", leg(bank, half), leg(work, -half))))
	if s.Book().Turnover() != greatest-1 {
		t.Fatalf("the turnover is %d", s.Book().Turnover())
	}
	sumsTo(t, s, typing.BySums, "show sum(amount)", 0)
	sumsTo(t, s, typing.BySums, "where account under 'Assets' show sum(amount)", half)
	sumsTo(t, s, typing.BySums, "where account = 'Income:Work' show sum(amount)", -half)
	sumsTo(t, s, typing.ByDaily, "where account = 'Assets:Bank' and day <= 2024-01-01 show sum(amount)", half)
	sumsTo(t, s, typing.ByDaily, "where account = 'Assets:Bank' and day > 2024-01-01 show sum(amount)", 0)
	quarter := half / 2
	s = behind(t, append(opened(), post(d, "a", leg(bank, quarter), leg(work, -quarter)), post(d+1, "b", leg(bank, -quarter), leg(work, quarter))))
	sumsTo(t, s, typing.ByDaily, "where account = 'Assets:Bank' and day > 2024-01-01 show sum(amount)", -quarter)
	sumsTo(t, s, typing.ByDaily, "where account = 'Income:Work' and day >= 2024-01-02 show sum(amount)", quarter)
}

// It is worked out of the view that the plan names, and of no other.
func TestP15_2FromTheView(t *testing.T) {
	sum := func(s *rebuild.Set, text string) int64 {
		t.Helper()
		got, is, why := Quick(read(t, text), s)
		if !is || why != api.OK || len(got.Rows) != 1 {
			t.Fatalf("Quick(%s): %+v, %v, %d", text, got, is, int(why))
		}
		return got.Rows[0][0].Num
	}
	s := moves(t)
	row := []api.Posting{{Account: "A:B", Day: 12, Amount: 7}}
	s.Sums().Apply(row) // by a way of its own: so the views differ
	for text, want := range map[string]int64{
		"show sum(amount)": 7, "where account = 'A:B' show sum(amount)": 5007, "where account under 'A' show sum(amount)": 76038, "where account = 'A:B' and day = 0001-01-12 show sum(amount)": 5000,
	} {
		if got := sum(s, text); got != want {
			t.Errorf("%s: %d; want %d", text, got, want)
		}
	}
	s = moves(t)
	s.Daily().Apply(row)
	for text, want := range map[string]int64{
		"show sum(amount)": 0, "where account = 'A:B' show sum(amount)": 5000, "where account under 'A' show sum(amount)": 76031, "where account = 'A:B' and day = 0001-01-12 show sum(amount)": 5007,
	} {
		if got := sum(s, text); got != want {
			t.Errorf("%s: %d; want %d", text, got, want)
		}
	}
}
