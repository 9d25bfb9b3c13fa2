package answer

import (
	"math"
	"testing"

	"daybook/api"
)

// fieldWorth: what a field is worth at a row: in a node and as one of By.
func fieldWorth(t *testing.T, want api.Cell, row api.Posting, f int) {
	t.Helper()
	worths(t, want, row, leaf(fieldOf(f)))
	q := api.Query{Where: -1, By: []int{f}, Show: []api.Agg{{Kind: api.ACount}}, Limit: -1}
	if want == overCell {
		fails(t, q, []api.Posting{row}, api.ErrOverflow)
	} else {
		gives(t, q, []api.Posting{row}, line(want, number(1)))
	}
}

func TestP15_1Fields(t *testing.T) {
	row := api.Posting{Seq: 11, Line: 12, Day: 738917, Kind: 14, Key: "the key", Account: "The:Account:X", Amount: 17, Tag: "the tag", Memo: "the memo"}
	for i, want := range []api.Cell{
		number(11), number(12), date(738917), number(14), text("the key"), text("The:Account:X"), cash(17), cash(17), cash(0), text("the tag"), text("the memo"),
		number(202402), number(2024), text("The"),
	} {
		fieldWorth(t, want, row, i+1)
	}
	row.Amount = -17
	for f, want := range map[int]api.Cell{api.FAmount: cash(-17), api.FDebit: cash(0), api.FCredit: cash(17)} {
		fieldWorth(t, want, row, f)
	}
	// The zero row has no day; all else of it is 0 or empty.
	for i, want := range []api.Cell{
		number(0), number(0), overCell, number(0), text(""), text(""), cash(0), cash(0), cash(0), text(""), text(""), overCell, overCell, text(""),
	} {
		fieldWorth(t, want, api.Posting{}, i+1)
	}
}

func TestP15_1NumberFields(t *testing.T) {
	for _, n := range []int{0, 1, -1, 9, math.MaxInt, math.MinInt + 1, 1 << 32} {
		row := api.Posting{Seq: n, Line: n, Kind: n}
		for _, f := range []int{api.FSeq, api.FLine, api.FKind} {
			fieldWorth(t, number(int64(n)), row, f)
		}
	}
	// Each of them by itself.
	for f, row := range map[int]api.Posting{api.FSeq: {Seq: math.MinInt}, api.FLine: {Line: math.MinInt}, api.FKind: {Kind: math.MinInt}} {
		for _, other := range []int{api.FSeq, api.FLine, api.FKind} {
			if other == f {
				fieldWorth(t, overCell, row, other)
			} else {
				fieldWorth(t, number(0), row, other)
			}
		}
	}
}

func TestP15_1AmountFields(t *testing.T) {
	for _, n := range []int64{0, 1, -1, 500, -500, greatest, -greatest, 1 << 32, -1 << 32} {
		row := api.Posting{Amount: n}
		fieldWorth(t, cash(n), row, api.FAmount)
		fieldWorth(t, cash(max(n, 0)), row, api.FDebit)
		fieldWorth(t, cash(max(-n, 0)), row, api.FCredit)
	}
	for _, f := range []int{api.FAmount, api.FDebit, api.FCredit} {
		fieldWorth(t, overCell, api.Posting{Amount: least, Day: 1}, f)
	}
}

func TestP15_1DayFields(t *testing.T) {
	for _, x := range []struct{ day, month, year int64 }{
		{1, 101, 1}, {31, 101, 1}, {32, 102, 1}, {365, 112, 1}, {366, 201, 2}, {738886, 202401, 2024}, {738916, 202401, 2024}, {738917, 202402, 2024}, {738945, 202402, 2024}, {738946, 202403, 2024},
		{lastDay, 999912, 9999}, {lastDay - 31, 999911, 9999},
	} {
		row := api.Posting{Day: int(x.day)}
		fieldWorth(t, date(x.day), row, api.FDay)
		fieldWorth(t, number(x.month), row, api.FMonth)
		fieldWorth(t, number(x.year), row, api.FYear)
	}
	for _, n := range []int{0, -1, lastDay + 1, lastDay + 2, 1 << 32, 1<<32 + 5, -1 << 32, math.MaxInt, math.MinInt} {
		for _, f := range []int{api.FDay, api.FMonth, api.FYear} {
			fieldWorth(t, overCell, api.Posting{Day: n}, f)
		}
	}
}

// A root is what stands ahead of the first ':', whatever the account is.
func TestP15_1Roots(t *testing.T) {
	for account, root := range map[string]string{
		"": "", "A": "A", "A:B": "A", "A:B:C": "A", ":": "", ":A": "", "A:": "A", "A::B": "A", "x y": "x y", "x y:z": "x y", "\xff\x00:A": "\xff\x00", "Assets-2:Bank": "Assets-2", "::": "", "a;b:c": "a;b",
	} {
		fieldWorth(t, text(root), api.Posting{Account: account}, api.FRoot)
		fieldWorth(t, text(account), api.Posting{Account: account}, api.FAccount)
	}
}

// Texts count as they stand, also such as no row of books has.
func TestP15_1TextFields(t *testing.T) {
	for _, s := range []string{"", " ", "\x00", "\xff\xfe", "it's", "\"", "ä", "Ä", "a\nb"} {
		fieldWorth(t, text(s), api.Posting{Key: s, Account: "x", Tag: "x", Memo: "x"}, api.FKey)
		fieldWorth(t, text(s), api.Posting{Key: "x", Account: "x", Tag: s, Memo: "x"}, api.FTag)
		fieldWorth(t, text(s), api.Posting{Key: "x", Account: "x", Tag: "x", Memo: s}, api.FMemo)
	}
}

// A field that is over where nothing asks for it does no harm.
func TestP15_1FieldsNotAsked(t *testing.T) {
	row := api.Posting{Seq: math.MinInt, Line: math.MinInt, Kind: math.MinInt, Amount: least, Day: 0, Account: "A:B", Key: "k"}
	gives(t, read(t, "show count, max(account), min(root), max(key)"), []api.Posting{row}, line(number(1), text("A:B"), text("A"), text("k")))
	gives(t, read(t, "by account, key show count"), []api.Posting{row}, line(text("A:B"), text("k"), number(1)))
	for f := api.FSeq; f <= api.FRoot; f++ {
		// In a node that nothing names, and in one that is named where it is not asked.
		q := api.Query{Nodes: leaf(fieldOf(f)), Where: -1, Show: []api.Agg{{Kind: api.ACount, Of: 0}}, Limit: -1}
		gives(t, q, []api.Posting{row}, line(number(1)))
		q.Nodes = append(joined(api.QEq, leaf(fieldOf(f)), leaf(fieldOf(f))), truth(0), truth(1), pair(api.QAnd, 3, 2), pair(api.QOr, 4, 2))
		for where, want := range map[int]int64{5: 0, 6: 1} {
			q.Where = where
			gives(t, q, []api.Posting{row}, line(number(want)))
		}
	}
}
