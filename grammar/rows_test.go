package grammar

import (
	"strings"
	"testing"

	"daybook/api"
)

// samples: texts that go through each row of the grammar in each way.
func samples() []string {
	return []string{
		"show count",
		"show sum(amount), min(day), max(memo), count",
		"by day show count",
		"by root, month, root show count, count",
		"where true show count",
		"where seq = 1 or line <> 2 or kind < 3 and key <= 'k' and not account under 'A' and not not tag has 't' show count",
		"where debit > credit + 1 - 2 + amount * 3 * -4 - --year and month >= 7 show count",
		"where (((true or false) and true) = (not false)) show count",
		"where -(1 + 2) * (3 - (4 - 5)) = day - 2024-01-01 by tag show sum(-(amount * 2)), max((memo)) order 1, 2 asc, 3 desc limit 5",
		"show count order 1",
		"show count order 99 desc, 01 asc",
		"show count limit 0",
		"show count order 1 desc limit 999999999",
	}
}

// At each place of each sample: each token instead, each token put in, the token left out, the text's end; with all behind it and without.
func TestP13_1EachPlace(t *testing.T) {
	all := vocabulary()
	for _, s := range samples() {
		if _, why := parsesAsPlain(t, s); why != api.OK {
			t.Fatalf("%q is not read: %d", s, int(why))
		}
		for _, k := range plainCut(s) {
			front, rest := s[:k.at], s[k.at+len(k.as):]
			parsesAsPlain(t, front)
			parsesAsPlain(t, front+rest)
			for _, token := range all {
				parsesAsPlain(t, front+" "+token)
				parsesAsPlain(t, front+" "+token+" "+rest)
				parsesAsPlain(t, front+" "+token+" "+k.as+rest)
			}
		}
	}
}

func TestP13_1Queries(t *testing.T) {
	// Each clause is at most once there, in its order, and show must be.
	for s, at := range map[string]int{
		"where true": 10, "by day": 6, "where true by day": 17, "order 1": 0, "limit 1": 0, "count": 0, "sum(amount)": 0, "true": 0, "1": 0, "day": 0, "'a'": 0, "(": 0,
		"show count where true": 11, "show count by day": 11, "by day where true show count": 7, "show count limit 1 order 1": 19, "show count order 1 order 2": 19, "show count limit 1 limit 1": 19, "show count show count": 11,
		"where true where true show count": 11, "by day by day show count": 7, "show count limit 1, 2": 18, "where true, false show count": 10,
	} {
		fails(t, s, at, api.ErrSyntax)
	}
	// Lists: at least one, with a comma between two.
	for s, at := range map[string]int{
		"by show count": 3, "by , day show count": 3, "by day, show count": 8, "by day day show count": 7, "by day,, tag show count": 7, "by 1 show count": 3, "by 'day' show count": 3, "by (day) show count": 3, "by true show count": 3, "by count show count": 3, "by -day show count": 3,
		"show": 4, "show ,": 5, "show count,": 11, "show count, ": 12, "show count,, count": 11, "show day": 5, "show 1": 5, "show order 1": 5, "show limit 1": 5,
		"show count order": 16, "show count order ,": 17, "show count order 1,": 19, "show count order 1 2": 19, "show count order 1 asc desc": 23, "show count order asc": 17, "show count order day": 17, "show count order 'a'": 17, "show count order -1": 17, "show count order (1)": 17,
		"show count limit": 16, "show count limit -1": 17, "show count limit day": 17, "show count limit 1 desc": 19, "show count limit 1 1": 19, "show count limit (1)": 17, "show count limit true": 17,
	} {
		fails(t, s, at, api.ErrSyntax)
	}
	// Aggregates: count alone has no brackets, the others have just one expression in them.
	for s, at := range map[string]int{
		"show count()": 10, "show count(day)": 10, "show sum": 8, "show sum amount": 9, "show sum(": 9, "show sum()": 9, "show sum(amount": 15, "show sum(amount, day)": 15, "show sum(count)": 9, "show sum(sum(day))": 9, "show min)": 8, "show max(day))": 13, "show sum(amount) + 1": 17, "show (sum(amount))": 5, "show -sum(amount)": 5, "show max ( day": 14,
	} {
		fails(t, s, at, api.ErrSyntax)
	}
	// Expressions with a token that does not go on so.
	for s, at := range map[string]int{
		")": 0, "()": 1, "(1))": 3, "1)": 1, "1 2": 2, "1 (2)": 2, "not and": 4, "1 not 2": 2, "1 + not true": 4, "1 = not true": 4, "- not 1": 2, "true and or": 9, "or true": 0, "and true": 0, "true not and true": 5,
		"1 + + 2": 4, "+ 1": 0, "* 1": 0, "1 * * 2": 4, "= 1": 0, "1 = = 1": 4, "under 'a'": 0, "'a' has has 'b'": 8, "1 = 2 = 3": 6, "1 < 2 under 3": 6, "1 = 2 + 3 >= 4": 10, "count": 0, "sum(1)": 0, "asc": 0, "1, 2": 1, "(1, 2)": 2, "1 limit 2": 2,
	} {
		fails(t, ahead+s+behind, len(ahead)+at, api.ErrSyntax)
		fails(t, ahead+s, len(ahead)+at, api.ErrSyntax)
	}
	// Expressions that end where more must come.
	for _, s := range []string{"", "(1", "((1)", "not", "not not", "true and", "true or", "1 +", "1 -", "1 *", "-", "1 =", "1 <>", "'a' under", "'a' has", "not (", "1 * (2 +"} {
		front := strings.TrimRight(ahead+s, " ")
		fails(t, front, len(front), api.ErrSyntax)
		fails(t, front+" \n", len(front)+2, api.ErrSyntax)
		fails(t, front+behind, len(front)+1, api.ErrSyntax)
	}
}

func TestP13_1KeysNumbers(t *testing.T) {
	ordered := func(columns ...api.Order) api.Query {
		q := counts()
		q.Orders = columns
		return q
	}
	for s, column := range map[string]int{"1": 0, "2": 1, "9": 8, "10": 9, "98": 97, "99": 98, "007": 6, "0099": 98} {
		parses(t, "show count order "+s, ordered(api.Order{Column: column}))
		parses(t, "show count order "+s+" asc", ordered(api.Order{Column: column}))
		parses(t, "show count order "+s+" desc", ordered(api.Order{Column: column, Desc: true}))
		parses(t, "show count order 1, "+s+" desc,1", ordered(api.Order{}, api.Order{Column: column, Desc: true}, api.Order{}))
	}
	for _, s := range []string{"0", "00", "100", "0100", "101", "999", "1000000000", "4294967297", "9223372036854775807", "9223372036854775808", "18446744073709551617"} {
		fails(t, "show count order "+s, 17, api.ErrSyntax)
		fails(t, "show count order 1 asc, "+s+" desc limit 1", 24, api.ErrSyntax)
	}
}

func TestP13_1Limits(t *testing.T) {
	for s, limit := range map[string]int{"0": 0, "1": 1, "000": 0, "999999999": 999999999, "0999999999": 999999999, "999999998": 999999998} {
		q := counts()
		q.Limit = limit
		parses(t, "show count limit "+s, q)
	}
	for _, s := range []string{"1000000000", "01000000000", "4294967296", "9223372036854775807", "9223372036854775808"} {
		fails(t, "show count limit "+s, 17, api.ErrSyntax)
	}
}

// Every node of 13.3 with all its fields, and the order of nodes.
func TestP13_1Nodes(t *testing.T) {
	for s, op := range map[string]int{"or": api.QOr, "and": api.QAnd, "=": api.QEq, "<>": api.QNe, "<": api.QLt, "<=": api.QLe, ">": api.QGt, ">=": api.QGe, "under": api.QUnder, "has": api.QHas, "+": api.QAdd, "-": api.QSub, "*": api.QMul} {
		parses(t, conditioned("tag "+s+" 'b'"), counts(fieldOf(api.FTag), said("b"), between(op, 0, 1)))
	}
	parses(t, conditioned("not seq"), counts(fieldOf(api.FSeq), of(api.QNot, 0)))
	parses(t, conditioned("-seq"), counts(fieldOf(api.FSeq), of(api.QNeg, 0)))
	parses(t, conditioned("not not - - seq"), counts(fieldOf(api.FSeq), of(api.QNeg, 0), of(api.QNeg, 1), of(api.QNot, 2), of(api.QNot, 3)))
	// Operations of one kind are taken from the left.
	for s, op := range map[string]int{"or": api.QOr, "and": api.QAnd, "+": api.QAdd, "-": api.QSub, "*": api.QMul} {
		parses(t, conditioned("1 "+s+" 2 "+s+" 3 "+s+" 4"), counts(num(1), num(2), between(op, 0, 1), num(3), between(op, 2, 3), num(4), between(op, 4, 5)))
		parses(t, conditioned("1 "+s+" (2 "+s+" (3 "+s+" 4))"), counts(num(1), num(2), num(3), num(4), between(op, 2, 3), between(op, 1, 4), between(op, 0, 5)))
	}
	parses(t, conditioned("1 - 2 + 3 - 4"), counts(num(1), num(2), between(api.QSub, 0, 1), num(3), between(api.QAdd, 2, 3), num(4), between(api.QSub, 4, 5)))
	// Each level within the one above it.
	parses(t, conditioned("true or not 1 = 2 + 3 * -4 and false"), counts(
		truth(1), num(1), num(2), num(3), num(4), of(api.QNeg, 4), between(api.QMul, 3, 5), between(api.QAdd, 2, 6), between(api.QEq, 1, 7), of(api.QNot, 8), truth(0), between(api.QAnd, 9, 10), between(api.QOr, 0, 11)))
	parses(t, conditioned("-4 * 3 + 2 = 1 and true or false"), counts(
		num(4), of(api.QNeg, 0), num(3), between(api.QMul, 1, 2), num(2), between(api.QAdd, 3, 4), num(1), between(api.QEq, 5, 6), truth(1), between(api.QAnd, 7, 8), truth(0), between(api.QOr, 9, 10)))
	parses(t, conditioned("not 1 = 2 or 3"), counts(num(1), num(2), between(api.QEq, 0, 1), of(api.QNot, 2), num(3), between(api.QOr, 3, 4)))
}

// Places go on through all expressions of a query.
func TestP13_1QuerysFields(t *testing.T) {
	parses(t, "where not true by tag, tag show min(1 + 2), count, max(-day), sum('a') order 2 desc, 1 limit 3", api.Query{
		Nodes:  []api.Node{truth(1), of(api.QNot, 0), num(1), num(2), between(api.QAdd, 2, 3), fieldOf(api.FDay), of(api.QNeg, 5), said("a")},
		Where:  1,
		By:     []int{api.FTag, api.FTag},
		Show:   []api.Agg{{Kind: api.AMin, Of: 4}, {Kind: api.ACount, Of: -1}, {Kind: api.AMax, Of: 6}, {Kind: api.ASum, Of: 7}},
		Orders: []api.Order{{Column: 1, Desc: true}, {Column: 0}},
		Limit:  3,
	})
	parses(t, "show sum(1), sum(2)", api.Query{Nodes: []api.Node{num(1), num(2)}, Where: -1, Show: []api.Agg{{Kind: api.ASum, Of: 0}, {Kind: api.ASum, Of: 1}}, Limit: -1})
}
