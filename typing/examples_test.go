package typing

import (
	"testing"

	"daybook/api"
	"daybook/grammar"
)

// read: the query of a text.
func read(t *testing.T, s string) api.Query {
	t.Helper()
	q, at, why := grammar.Parse(s)
	if why != api.OK {
		t.Fatalf("Parse(%q): %d, %d", s, at, int(why))
	}
	return q
}

func TestExample1Columns(t *testing.T) {
	for _, x := range []struct {
		text  string
		plan  int
		types []int
	}{
		{"show count", ByScan, []int{api.TNum}},
		{"show sum(amount)", BySums, []int{api.TMoney}},
		{"show sum(debit)", ByScan, []int{api.TMoney}},
		{"by root, month show count, max(memo), sum(amount * 2)", ByScan, []int{api.TText, api.TNum, api.TNum, api.TText, api.TMoney}},
	} {
		means(t, read(t, x.text), x.types...)
		plans(t, read(t, x.text), x.plan)
	}
}

func TestExample2Fits(t *testing.T) {
	means(t, read(t, "where amount > 100 show count"), api.TNum)
	means(t, read(t, "where 100 = debit show count"), api.TNum)
	for _, s := range []string{
		"show sum(amount + 1)", "show sum(amount * amount)", "show sum(day)", "show min(amount > 1)", "where day > 5 show count",
		"where key < day show count", "where true < false show count", "where amount show count", "where not 1 show count",
		"where account under 5 show count",
	} {
		fails(t, read(t, s))
	}
}

func TestExample3Days(t *testing.T) {
	s := "where day + 30 >= 2024-03-01 and true = (day - 2024-01-01 < 10) show max(day - 1), sum(2024-01-01 - day)"
	means(t, read(t, s), api.TDay, api.TNum)
}

func TestExample4Orders(t *testing.T) {
	fails(t, read(t, "by tag show count order 3"))
	means(t, read(t, "by tag show count order 2"), api.TText, api.TNum)
}

func TestExample5Sums(t *testing.T) {
	plans(t, read(t, "where account under 'Assets' show sum(amount)"), BySums)
	plans(t, read(t, "where account = 'Assets' show sum(amount), sum(amount)"), BySums)
	plans(t, read(t, "where 'Assets' = account show sum(amount)"), ByScan)
	plans(t, read(t, "where account = 'x y' show sum(amount) limit 0"), BySums)
}

func TestExample6Daily(t *testing.T) {
	plans(t, read(t, "where account = 'Assets' and day <= 2024-01-31 show sum(amount)"), ByDaily)
	plans(t, read(t, "where day > 2024-01-01 and (day < 2024-02-01 and account = 'A') show sum(amount)"), ByDaily)
	for _, s := range []string{
		"where account under 'A' and day <= 2024-01-31 show sum(amount)",
		"where account = 'A' and account = 'A' and day = 2024-01-01 show sum(amount)",
		"where account = 'A' or day = 2024-01-01 show sum(amount)",
		"where account = 'A' by day show sum(amount)",
	} {
		if _, why := Check(read(t, s)); why != api.OK {
			t.Errorf("%s: %d", s, int(why))
		}
		plans(t, read(t, s), ByScan)
	}
}

func TestExample7NoMeaning(t *testing.T) {
	fails(t, counting(num(1), num(2), num(3), between(api.QAdd, 5, 0), num(4), num(5)))
	fails(t, counting(num(1), num(2), num(3), between(api.QAdd, 5, 0)))
	fails(t, counting(of(api.QNot, -1)))
	fails(t, counting(dayOf(0)))
	fails(t, counting(api.Node{Op: 0}))
	fails(t, counting(api.Node{Op: 21}))
	fails(t, api.Query{Where: -1, Limit: -1})
	q := counting()
	q.Limit = -2
	fails(t, q)
	if f, is := FieldOf("month"); f != 12 || !is {
		t.Errorf("FieldOf(month): %d, %v", f, is)
	}
	for _, s := range []string{"Month", ""} {
		if f, is := FieldOf(s); f != 0 || is {
			t.Errorf("FieldOf(%q): %d, %v", s, f, is)
		}
	}
	for _, f := range []int{0, 15} {
		if name, valueType := Field(f); name != "" || valueType != 0 {
			t.Errorf("Field(%d): %q, %d", f, name, valueType)
		}
	}
}
