package grammar

import (
	"slices"
	"strings"
	"testing"

	"daybook/api"
)

const (
	ahead  = "where "
	behind = " show count"
)

// conditioned: the text with a condition.
func conditioned(condition string) string { return ahead + condition + behind }

// isAtom: a token by itself is read as such a node, with blanks round it, and without them where marks stand round it.
func isAtom(t *testing.T, token string, want api.Node) {
	t.Helper()
	parses(t, conditioned(token), counts(want))
	for _, blank := range []string{" ", "\t", "\n", "\r", "\r\n\t "} {
		parses(t, blank+"where"+blank+token+blank+"show"+blank+"count"+blank, counts(want))
	}
	parses(t, "where("+token+")show count", counts(want))
	parses(t, "where -"+token+"*"+token+"=("+token+")show count", counts(want, of(api.QNeg, 0), want, between(api.QMul, 1, 2), want, between(api.QEq, 3, 4)))
	parses(t, "show max("+token+")", api.Query{Nodes: []api.Node{want}, Where: -1, Show: []api.Agg{{Kind: api.AMax, Of: 0}}, Limit: -1})
}

// isNone: where an atom goes on, there is a fault at its first byte, whatever stands ahead and behind.
func isNone(t *testing.T, token string) {
	t.Helper()
	for _, front := range []string{"where ", "where\n\n", "where(", "where not\t", "where 1 = -", "where true and(1+", "show sum("} {
		for _, end := range []string{"", " ", " show count", ")", "(", ",", " 'a'", "\t\x00", " \xff"} {
			fails(t, front+token+end, len(front), api.ErrSyntax)
		}
	}
}

func TestP13_1Fields(t *testing.T) {
	for i, name := range strings.Fields("seq line day kind key account amount debit credit tag memo month year root") {
		isAtom(t, name, fieldOf(i+1))
		parses(t, "by "+name+" show count", api.Query{Where: -1, By: []int{i + 1}, Show: []api.Agg{{Kind: api.ACount, Of: -1}}, Limit: -1})
	}
	if api.FSeq != 1 || api.FRoot != 14 {
		t.Error("fields have other numbers")
	}
}

func TestP13_1Truths(t *testing.T) {
	isAtom(t, "true", truth(1))
	isAtom(t, "false", truth(0))
}

// Words that are neither keys nor fields, and what may not stand behind a word.
func TestP13_1Words(t *testing.T) {
	for _, w := range []string{"a", "z", "days", "da", "sequence", "lines", "and1", "wher", "wheres", "orr", "nota", "truefalse", "amountdebit", "fields", "text", "number", "query", "between", "null"} {
		isNone(t, w)
	}
	for _, w := range strings.Fields(keyWords + " " + fieldWords) {
		for _, b := range "abcxyz0123456789" {
			if longer := w + string(b); !slices.Contains(strings.Fields(keyWords+" "+fieldWords), longer) {
				isNone(t, longer)
			}
		}
		isNone(t, w+"7a")
		isNone(t, w+"2024-01-01")
	}
	for _, w := range []string{"Day", "DAY", "A", "Z", "_", "_day", "\x00", "\x7f", "\x80", "\xc3\xa9", "é", "#", "\"", "`", "!", "!=", "/", "%", "&", ".", ".5", ":", ";", "?", "@", "[", "]", "\\", "^", "{", "|", "}", "~", "$", "\x0b", "\x0c", "\x85", "\u00a0"} {
		isNone(t, w)
	}
}

// A capital letter, or another byte that no token begins with, is a fault at its own place.
func TestP13_1CapitalsBehind(t *testing.T) {
	for _, token := range []string{"day", "true", "7", "007", "2024-01-01", "'a'"} {
		for _, b := range []string{"A", "Z", "X1", "_", ".", "\x00", "\xff", "é", "#"} {
			fails(t, ahead+token+b, len(ahead+token), api.ErrSyntax)
			fails(t, ahead+token+b+" show count", len(ahead+token), api.ErrSyntax)
		}
	}
	fails(t, "whereA", 5, api.ErrSyntax)
	fails(t, "show countA", 10, api.ErrSyntax)
	fails(t, "show count order 1A", 18, api.ErrSyntax)
	fails(t, "show count limit 1_000", 18, api.ErrSyntax)
}

func TestP13_1Numbers(t *testing.T) {
	for s, n := range map[string]int64{
		"0": 0, "00": 0, "1": 1, "01": 1, "9": 9, "10": 10, "2024": 2024, "000000000000000000000000000000000000000000000000000017": 17,
		"9223372036854775807": api.MaxAmount, "09223372036854775807": api.MaxAmount, "9223372036854775806": api.MaxAmount - 1, "999999999999999999": 999999999999999999,
		strings.Repeat("0", 100): 0,
	} {
		isAtom(t, s, num(n))
	}
	for _, s := range []string{"9223372036854775808", "09223372036854775808", "9223372036854775810", "10000000000000000000", "18446744073709551616", "18446744073709551617", strings.Repeat("9", 39), strings.Repeat("9", 40), strings.Repeat("9", 41), strings.Repeat("1", 100)} {
		isNone(t, s)
	}
	for _, s := range []string{"1a", "0z", "7day", "1e5", "0x10", "10and", "12show", "9223372036854775808a"} {
		isNone(t, s)
	}
	long := strings.Repeat("0", api.MaxQuery-len(conditioned("")))
	parses(t, conditioned(long), counts(num(0)))
}

func TestP13_1Days(t *testing.T) {
	for s, n := range map[string]int64{"0001-01-01": 1, "2024-02-29": 738945, "1970-01-01": 719163, "9999-12-31": 3652059, "2000-02-29": 730179, "2024-01-01": 738886} {
		isAtom(t, s, dayOf(n))
	}
	for _, s := range []string{"2024-02-30", "2023-02-29", "1900-02-29", "0000-01-01", "0000-00-00", "2024-00-10", "2024-13-01", "2024-01-00", "2024-01-32", "9999-99-99", "2024-04-31"} {
		isNone(t, s)
		isNone(t, s+"a")
	}
	for _, s := range []string{"2024-01-01a", "2024-01-01day", "2024-01-01and"} {
		isNone(t, s)
	}
	// A digit more or less, another sign, a blank: numbers with signs between them.
	for s, n := range map[string][3]int64{
		"2024-02-3": {2024, 2, 3}, "2024-2-03": {2024, 2, 3}, "024-02-03": {24, 2, 3}, "12024-02-03": {12024, 2, 3}, "2024-002-03": {2024, 2, 3}, "2024-02-003": {2024, 2, 3},
		"2024 -02-03": {2024, 2, 3}, "2024- 02-03": {2024, 2, 3}, "2024-02 -03": {2024, 2, 3}, "2024-02-\n03": {2024, 2, 3}, "2024-02-300": {2024, 2, 300}, "2024-99-990": {2024, 99, 990},
	} {
		parses(t, conditioned(s), counts(num(n[0]), num(n[1]), between(api.QSub, 0, 1), num(n[2]), between(api.QSub, 2, 3)))
	}
	parses(t, conditioned("2024+02-03"), counts(num(2024), num(2), between(api.QAdd, 0, 1), num(3), between(api.QSub, 2, 3)))
	parses(t, conditioned("2024-02+03"), counts(num(2024), num(2), between(api.QSub, 0, 1), num(3), between(api.QAdd, 2, 3)))
	// Days against what may stand there.
	parses(t, conditioned("2024-01-01-01"), counts(dayOf(738886), num(1), between(api.QSub, 0, 1)))
	parses(t, conditioned("1-2024-01-01"), counts(num(1), dayOf(738886), between(api.QSub, 0, 1)))
	parses(t, conditioned("2024-01-01-2024-01-01"), counts(dayOf(738886), dayOf(738886), between(api.QSub, 0, 1)))
	parses(t, conditioned("--2024-01-01"), counts(dayOf(738886), of(api.QNeg, 0), of(api.QNeg, 1)))
	fails(t, "by 2024-01-01 show count", 3, api.ErrSyntax)
	fails(t, "show count limit 2024-01-01", 17, api.ErrSyntax)
	fails(t, "show count limit 2024-01-011", 21, api.ErrSyntax)
}

func TestP13_1Texts(t *testing.T) {
	for s, want := range map[string]string{
		"''": "", "' '": " ", "'a'": "a", "''''": "'", "''''''": "''", "'it''s'": "it's", "'''a'": "'a", "'a'''": "a'", "' !~'": " !~", `'"\'`: `"\`, "'-- (a, b) = <> 7 where'": "-- (a, b) = <> 7 where",
	} {
		isAtom(t, s, said(want))
	}
	for b := range 256 {
		s := "'a" + string([]byte{byte(b)}) + "b'"
		switch {
		case b == '\'':
			fails(t, conditioned(s), len(ahead)+3, api.ErrSyntax) // the text ends, and b is no word
		case b >= 32 && b <= 126:
			isAtom(t, s, said(s[1:4]))
		default:
			isNone(t, s)
		}
	}
	// One that does not end takes all behind it, so nothing can make it whole.
	for _, s := range []string{"'", "'a", "'''", "'''''", "'a''", "'it''s", "' show count", "'a'' show count"} {
		for _, front := range []string{"where ", "where not(", "show sum("} {
			fails(t, front+s, len(front), api.ErrSyntax)
			fails(t, front+s+" ) show count", len(front), api.ErrSyntax)
		}
	}
	// Texts against each other, and what may stand right behind one.
	fails(t, conditioned("'a' 'b'"), len(ahead)+4, api.ErrSyntax)
	fails(t, conditioned("'a'7"), len(ahead)+3, api.ErrSyntax)
	parses(t, "where'a'has'b'or'c'show count", counts(said("a"), said("b"), between(api.QHas, 0, 1), said("c"), between(api.QOr, 2, 3)))

}

// Marks of one and of two signs, and where they stand against each other.
func TestP13_1Marks(t *testing.T) {
	for s, op := range map[string]int{"=": api.QEq, "<>": api.QNe, "<": api.QLt, "<=": api.QLe, ">": api.QGt, ">=": api.QGe, "+": api.QAdd, "-": api.QSub, "*": api.QMul} {
		for _, text := range []string{"1" + s + "2", "1 " + s + " 2", "1" + s + "\n2", "1\t" + s + "2"} {
			parses(t, conditioned(text), counts(num(1), num(2), between(op, 0, 1)))
		}
		if s != "-" {
			parses(t, conditioned("1"+s+"-2"), counts(num(1), num(2), of(api.QNeg, 1), between(op, 0, 2)))
			fails(t, conditioned(s+"1"), len(ahead), api.ErrSyntax)
		}
	}
	// The longer one is taken, and what is parted by a blank is two.
	for s, at := range map[string]int{"1 < > 2": 4, "1 < = 2": 4, "1 > = 2": 4, "1 == 2": 3, "1 => 2": 3, "1 =< 2": 3, "1 <<= 2": 3, "1 <>= 2": 4, "1 <=> 2": 4, "1 >> 2": 3, "1 >< 2": 3, "1 ><> 2": 3, "1 ** 2": 3, "1 ++ 2": 3, "1 -+ 2": 3, "1 != 2": 2, "1 <>> 2": 4} {
		fails(t, conditioned(s), len(ahead)+at, api.ErrSyntax)
	}
	parses(t, conditioned("1---2"), counts(num(1), num(2), of(api.QNeg, 1), of(api.QNeg, 2), between(api.QSub, 0, 3)))
	parses(t, "where(((1)))show sum((1)),count", api.Query{Nodes: []api.Node{num(1), num(1)}, Where: 0, Show: []api.Agg{{Kind: api.ASum, Of: 1}, {Kind: api.ACount, Of: -1}}, Limit: -1})
}

// Every byte, at a text's beginning, in its midst and at its end, as the model has it.
func TestP13_1EveryByte(t *testing.T) {
	for b := range 256 {
		s := string([]byte{byte(b)})
		for _, text := range []string{s, s + "show count", "show" + s + "count", "show" + s + " count", "show count" + s, "show count " + s, "where 1" + s + "2 show count", "where 1 " + s + " 2 show count", "where seq" + s + "= 1 show count", "where seq =" + s + "1 show count", "where (seq)" + s + "and true show count", "where 2024-01-01" + s + " show count", "where 'a'" + s + " show count", "show sum(" + s + "amount)", "show count limit 1" + s} {
			parsesAsPlain(t, text)
		}
	}
}

// Each two tokens against each other, with a blank and without.
func TestP13_1EachTwo(t *testing.T) {
	all := vocabulary()
	for _, one := range all {
		for _, two := range all {
			for _, front := range []string{"", "where ", "where 1 = ", "by day ", "show ", "show count order 1 "} {
				parsesAsPlain(t, front+one+two)
				parsesAsPlain(t, front+one+" "+two)
			}
		}
	}
}

// vocabulary: tokens of every kind, and some that are none.
func vocabulary() []string {
	return slices.Concat(strings.Fields(keyWords), strings.Fields(fieldWords), strings.Fields("( ) , + - * = <> <= >= < >"),
		strings.Fields("0 1 99 100 999999999 1000000000 9223372036854775807 9223372036854775808 2024-01-01 2024-02-30 'a' '' ''''"),
		[]string{"'it''s'", "' x'", "'", "a", "Where", "day1", "1a", "#", "\x00", "\xff"})
}
