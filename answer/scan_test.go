package answer

import (
	"math"
	"slices"
	"testing"

	"daybook/api"
)

// few: the rows of 15.4.
func few() []api.Posting {
	return []api.Posting{
		{Seq: 1, Line: 1, Day: d + 30, Kind: 3, Key: "k", Account: "Assets:Bank", Amount: 500, Tag: "rent"},
		{Seq: 1, Line: 2, Day: d + 30, Kind: 3, Key: "k", Account: "Income", Amount: -500},
		{Seq: 2, Line: 1, Day: d + 31, Kind: 3, Key: "l", Account: "Assets:Bank", Amount: -200, Tag: "rent"},
		{Seq: 2, Line: 2, Day: d + 31, Kind: 3, Key: "l", Account: "Costs", Amount: 200},
	}
}

// on: a row of an account and an amount, on a day.
func on(account string, amount int64) api.Posting {
	return api.Posting{Day: d, Account: account, Amount: amount}
}

func TestP15_1Where(t *testing.T) {
	for s, want := range map[string]int64{
		"show count": 4, "where true show count": 4, "where false show count": 0, "where amount > 0 show count": 2, "where amount >= 200 and amount < 500 show count": 1,
		"where tag = '' show count": 2, "where tag = '' or seq = 1 show count": 3, "where not (tag = '' or seq = 1) show count": 1, "where line = 2 and seq = 2 show count": 1,
		"where (tag = '') = (line = 2) show count": 4, "where day - 1 = 2024-01-31 show count": 2, "where month = 202401 show count": 2, "where year * 100 < month show count": 4,
		"where account under root show count": 4, "where root under account show count": 2, "where debit = credit show count": 0, "where debit + credit = 200 * (amount - amount + debit + credit) show count": 0,
		"where key has 'k' show count": 2, "where kind <> 3 show count": 0,
	} {
		gives(t, read(t, s), few(), line(number(want)))
	}
	// Each row by itself.
	for i, row := range few() {
		for s, counts := range map[string][4]int64{
			"where amount > 0 show count": {1, 0, 0, 1}, "where tag <> '' show count": {1, 0, 1, 0}, "where account = 'Income' show count": {0, 1, 0, 0}, "where day > 2024-01-31 show count": {0, 0, 1, 1},
		} {
			gives(t, read(t, s), []api.Posting{row}, line(number(counts[i])))
		}
	}
}

// The condition over at one row, wherever that stands, makes all over; a part that is not asked there does not.
func TestP15_1WhereOver(t *testing.T) {
	asked := read(t, "where day >= 2024-01-01 show count")
	behind := read(t, "where account = 'A' and day >= 2024-01-01 show count")
	either := read(t, "where account = 'B' or day >= 2024-01-01 show count")
	ahead := read(t, "where day >= 2024-01-01 and account = 'A' show count")
	for place := range 5 {
		rows := slices.Repeat([]api.Posting{on("A", 1)}, 4)
		gives(t, asked, rows, line(number(4)))
		bad := on("B", 1)
		bad.Day = 0
		rows = slices.Insert(rows, place, bad)
		fails(t, asked, rows, api.ErrOverflow)
		fails(t, ahead, rows, api.ErrOverflow)
		gives(t, behind, rows, line(number(4)))
		gives(t, either, rows, line(number(5)))
		rows[place].Account = "A"
		fails(t, behind, rows, api.ErrOverflow)
		fails(t, either, rows, api.ErrOverflow)
	}
	// No row, no harm.
	gives(t, read(t, "where 2024-01-01 + 9999999 > day show count"), nil, line(number(0)))
	fails(t, read(t, "where 2024-01-01 + 9999999 > day show count"), few(), api.ErrOverflow)
}

// Groups by each field: as many as it has different values, each with its rows.
func TestP15_1GroupsByEachField(t *testing.T) {
	a := api.Posting{Seq: 1, Line: 1, Day: d, Kind: 1, Key: "a", Account: "A", Amount: -1, Tag: "a", Memo: "a"}
	b := api.Posting{Seq: 2, Line: 2, Day: d + 400, Kind: 2, Key: "b", Account: "B", Amount: 5, Tag: "b", Memo: "b"}
	rows := []api.Posting{b, a, b, a, a}
	for f := api.FSeq; f <= api.FRoot; f++ {
		q := api.Query{Nodes: leaf(fieldOf(api.FAmount)), Where: -1, By: []int{f}, Show: []api.Agg{{Kind: api.ACount}, {Kind: api.ASum, Of: 0}}, Limit: -1}
		low, high := fieldAtPlainly(f, a), fieldAtPlainly(f, b)
		want := [][]api.Cell{line(low, number(3), cash(-3)), line(high, number(2), cash(10))}
		if f == api.FCredit {
			slices.Reverse(want) // b's credit is 0, a's is 1
		}
		gives(t, q, rows, want...)
		q.By = []int{f, f}
		for i, l := range want {
			want[i] = append(line(l[0]), l...)
		}
		gives(t, q, rows, want...)
		q.By = []int{f, f, f, f, f, f, f, f, f, f, f, f, f, f, f, f, f, f, f, f}
		for i, l := range want {
			want[i] = append(slices.Repeat(line(l[0]), 18), l...)
		}
		gives(t, q, rows, want...)
	}
}

func fieldAtPlainly(f int, row api.Posting) api.Cell {
	return plainCell(nodeTypes(leaf(fieldOf(f)))[0], plainField(f, row))
}

// Rows that differ in one field alone are in one group, unless that is one of By.
func TestP15_1GroupsAreAlikeInAll(t *testing.T) {
	base := api.Posting{Seq: 1, Line: 1, Day: d, Kind: 1, Key: "a", Account: "A:A", Amount: 5, Tag: "a", Memo: "a"}
	others := make([]api.Posting, 9)
	for i := range others {
		others[i] = base
	}
	others[0].Seq, others[1].Line, others[2].Day, others[3].Kind = 2, 2, d+1, 2
	others[4].Key, others[5].Account, others[6].Amount, others[7].Tag, others[8].Memo = "b", "A:B", 6, "b", "b"
	all := []int{api.FSeq, api.FLine, api.FDay, api.FKind, api.FKey, api.FAccount, api.FAmount, api.FTag, api.FMemo}
	for i, other := range others {
		q := api.Query{Where: -1, By: all, Show: []api.Agg{{Kind: api.ACount}}, Limit: -1}
		if got, _ := scansAsPlain(t, q, []api.Posting{base, other}); len(got.Rows) != 2 {
			t.Errorf("by all fields: %+v", got)
		}
		q.By = slices.Delete(slices.Clone(all), i, i+1)
		if got, _ := scansAsPlain(t, q, []api.Posting{base, other}); len(got.Rows) != 1 || got.Rows[0][8] != number(2) {
			t.Errorf("by all fields but one: %+v", got)
		}
	}
	// By all fourteen, forth and back.
	q := api.Query{Where: -1, Show: []api.Agg{{Kind: api.ACount}}, Limit: -1}
	for f := api.FSeq; f <= api.FRoot; f++ {
		q.By = append(q.By, f)
	}
	rows := append(slices.Clone(others), append(others, base)...)
	if got, _ := scansAsPlain(t, q, rows); len(got.Rows) != 10 {
		t.Errorf("by fourteen fields: %+v", got)
	}
	slices.Reverse(q.By)
	if got, _ := scansAsPlain(t, q, rows); len(got.Rows) != 10 {
		t.Errorf("by fourteen fields: %+v", got)
	}
}

// Texts one behind the other are not one text: ab and c are not a and bc.
func TestP15_1GroupsOfTexts(t *testing.T) {
	rows := []api.Posting{{Key: "ab", Tag: "c"}, {Key: "a", Tag: "bc"}, {Key: "", Tag: "abc"}, {Key: "abc", Tag: ""}, {Key: "ab", Tag: "c"}}
	gives(t, read(t, "by key, tag show count"), rows,
		line(text(""), text("abc"), number(1)), line(text("a"), text("bc"), number(1)), line(text("ab"), text("c"), number(2)), line(text("abc"), text(""), number(1)))
}

// A field of By over at a row that counts, and at one that does not.
func TestP15_1ByOver(t *testing.T) {
	spoilt := map[int]func(*api.Posting){
		api.FSeq: func(p *api.Posting) { p.Seq = math.MinInt }, api.FLine: func(p *api.Posting) { p.Line = math.MinInt }, api.FKind: func(p *api.Posting) { p.Kind = math.MinInt },
		api.FDay: func(p *api.Posting) { p.Day = 0 }, api.FMonth: func(p *api.Posting) { p.Day = lastDay + 1 }, api.FYear: func(p *api.Posting) { p.Day = -1 },
		api.FAmount: func(p *api.Posting) { p.Amount = least }, api.FDebit: func(p *api.Posting) { p.Amount = least }, api.FCredit: func(p *api.Posting) { p.Amount = least },
	}
	for f, spoil := range spoilt {
		rows := few()
		spoil(&rows[2])
		for _, by := range [][]int{{f}, {api.FKey, f}, {f, api.FKey}, {f, f}} {
			q := api.Query{Nodes: joined(api.QNe, leaf(fieldOf(api.FAccount)), leaf(said("Assets:Bank"))), Where: -1, By: by, Show: []api.Agg{{Kind: api.ACount}}, Limit: -1}
			fails(t, q, rows, api.ErrOverflow)
			fails(t, q, rows[2:3], api.ErrOverflow)
			q.Limit = 0
			fails(t, q, rows, api.ErrOverflow)
			q.Where, q.Limit = 2, -1
			if got, why := scansAsPlain(t, q, rows); why != api.OK || len(got.Rows) == 0 {
				t.Errorf("by %v: %+v, %d", by, got, int(why))
			}
		}
	}
}

func TestP15_1Counts(t *testing.T) {
	q := api.Query{Where: -1, Limit: -1}
	for _, of := range []int{-1, 0, 7, math.MinInt, math.MaxInt} { // it is not looked at
		q.Show = append(q.Show, api.Agg{Kind: api.ACount, Of: of})
	}
	for size := range 5 {
		n := number(int64(size))
		gives(t, q, few()[:size], line(n, n, n, n, n))
	}
	gives(t, read(t, "show count"), slices.Repeat(few(), 100), line(number(400)))
}

// Whole sums count, whatever the pieces come to.
func TestP15_1Sum(t *testing.T) {
	q := read(t, "show sum(amount)")
	over := func(amounts ...int64) {
		t.Helper()
		var rows []api.Posting
		for _, n := range amounts {
			rows = append(rows, on("A", n))
		}
		fails(t, q, rows, api.ErrOverflow)
		slices.Reverse(rows)
		fails(t, q, rows, api.ErrOverflow)
	}
	comes := func(want int64, amounts ...int64) {
		t.Helper()
		var rows []api.Posting
		for _, n := range amounts {
			rows = append(rows, on("A", n))
		}
		gives(t, q, rows, line(cash(want)))
		slices.Reverse(rows)
		gives(t, q, rows, line(cash(want)))
	}
	comes(0)
	comes(5, 5)
	comes(-5, -5)
	comes(0, 5, -5)
	comes(greatest, greatest)
	comes(-greatest, -greatest)
	comes(greatest, greatest, 1, -1)
	comes(greatest, greatest, greatest, -greatest)
	comes(-greatest, -greatest, -1, 1)
	comes(-greatest, -greatest, -greatest, greatest)
	comes(0, greatest, greatest, greatest, -greatest, -greatest, -greatest)
	comes(7, greatest, greatest, 7, -greatest, -greatest)
	comes(-1, greatest, 1, 1, -greatest, -3)
	comes(greatest, greatest-1, 1)
	comes(-greatest, -greatest+1, -1)
	comes(greatest, 1<<62, 1<<62-1)
	over(greatest, 1)
	over(-greatest, -1)
	over(greatest, greatest)
	over(-greatest, -greatest)
	over(greatest, greatest, -greatest+1)
	over(1<<62, 1<<62)
	over(-1<<62, -1<<62)
	over(-1<<62, -1<<62, -1)
	over(greatest, greatest, 2)                     // 2^64: its low word is 0
	over(greatest, greatest, 3)                     // and here 1
	over(-greatest, -greatest, -2)                  // -2^64
	over(slices.Repeat([]int64{1 << 62}, 4)...)     // 2^64
	over(slices.Repeat([]int64{-1 << 62}, 8)...)    // -2^65
	over(slices.Repeat([]int64{greatest}, 1000)...) // the words above grow
	comes(1000, append(slices.Repeat([]int64{greatest, 1}, 1000), slices.Repeat([]int64{-greatest}, 1000)...)...)
	over(least)
	over(least, 1)
	over(1, least, greatest)
}

// Of numbers too, and of what is worked out.
func TestP15_1SumOfNodes(t *testing.T) {
	gives(t, read(t, "show sum(seq), sum(line * 10), sum(day - 2024-01-31), sum(-amount), sum(debit - credit), sum(7), sum(amount * line)"), few(),
		line(number(6), number(60), number(2), cash(0), cash(0), number(28), cash(-300)))
	fails(t, read(t, "show sum(seq * 9223372036854775807)"), few(), api.ErrOverflow) // over at a row
	fails(t, read(t, "show sum(seq * 4611686018427387904)"), few()[:2], api.ErrOverflow)
	gives(t, read(t, "show sum(seq * 4611686018427387904)"), few()[:1], line(number(1<<62)))
	gives(t, read(t, "show sum(4611686018427387904 * (seq - line))"), few()[:2], line(number(-1<<62)))
}

// Of numbers, money, days, texts; wherever the least and the greatest stand.
func TestP15_1MinMax(t *testing.T) {
	rows := []api.Posting{
		{Seq: 5, Day: d + 9, Key: "b", Amount: -7, Account: "A:B"}, {Seq: -5, Day: d, Key: "", Amount: greatest, Account: "A-1"},
		{Seq: 0, Day: lastDay, Key: "\xff", Amount: 0, Account: "A"}, {Seq: 2, Day: 1, Key: "ba", Amount: -greatest, Account: "B"},
	}
	q := read(t, "show min(seq), max(seq), min(day), max(day), min(key), max(key), min(amount), max(amount), min(account), max(account), max(-seq), min(2024-01-01 - day)")
	want := line(number(-5), number(5), date(1), date(lastDay), text(""), text("\xff"), cash(-greatest), cash(greatest), text("A"), text("B"), number(5), number(d-lastDay))
	for range rows {
		gives(t, q, rows, want)
		rows = append(rows[1:], rows[0])
	}
	slices.Reverse(rows)
	gives(t, q, rows, want)
	// Of one row it is that row's; 0, the empty text and the first day are as good as others.
	gives(t, read(t, "show min(seq), max(seq), min(day), max(day), min(key), max(key), min(amount), max(amount)"), []api.Posting{{Day: 1}},
		line(number(0), number(0), date(1), date(1), text(""), text(""), cash(0), cash(0)))
	gives(t, read(t, "show min(key), max(key), min(seq), max(seq)"), []api.Posting{{Key: "", Seq: 0}, {Key: "z", Seq: 7}}, line(text(""), text("z"), number(0), number(7)))
	gives(t, read(t, "show min(key), max(key), min(seq), max(seq)"), []api.Posting{{Key: "z", Seq: -7}, {Key: "", Seq: 0}}, line(text(""), text("z"), number(-7), number(0)))
	gives(t, read(t, "by key show min(amount), max(amount)"), few(), line(text("k"), cash(-500), cash(500)), line(text("l"), cash(-200), cash(200)))
}

// A node of Show over at a row that counts, in whichever group; at one that does not count.
func TestP15_1ShowOver(t *testing.T) {
	for place := range 4 {
		rows := few()
		rows[place].Day = 0
		for _, s := range []string{"show max(day)", "show min(day)", "show sum(day - 2024-01-01)", "by key show count, min(day)", "by key show max(day) limit 0", "by key show max(month) limit 1", "show count, max(key), max(day)", "where account <> '' show max(year)"} {
			fails(t, read(t, s), rows, api.ErrOverflow)
			if _, why := scansAsPlain(t, read(t, s), few()); why != api.OK {
				t.Errorf("%s: %d", s, int(why))
			}
		}
		q := read(t, "where seq <> 9 show max(day)")
		rows[place].Seq = 9
		gives(t, q, rows, line(date(max(int64(rows[(place+1)%4].Day), int64(rows[(place+2)%4].Day), int64(rows[(place+3)%4].Day)))))
	}
}

// No row at all, and no row that counts.
func TestP15_1NoRows(t *testing.T) {
	for _, x := range []struct {
		s    string
		rows [][]api.Cell
	}{
		{"show count", [][]api.Cell{line(number(0))}}, {"show sum(amount)", [][]api.Cell{line(cash(0))}}, {"show sum(seq)", [][]api.Cell{line(number(0))}},
		{"show count, sum(debit), sum(line), count", [][]api.Cell{line(number(0), cash(0), number(0), number(0))}},
		{"show min(day)", nil}, {"show max(day)", nil}, {"show count, min(amount)", nil}, {"show max(key), sum(amount)", nil}, {"show sum(amount), count, max(seq), count", nil},
		{"by tag show count", nil}, {"by tag show count, sum(amount)", nil}, {"by day, key show min(day)", nil}, {"show count limit 0", nil}, {"show count limit 1", [][]api.Cell{line(number(0))}},
		{"show count order 1 desc", [][]api.Cell{line(number(0))}},
	} {
		q := read(t, x.s)
		gives(t, q, nil, x.rows...)
		gives(t, q, []api.Posting{}, x.rows...)
		q = read(t, "where amount > 1000 "+x.s)
		gives(t, q, few(), x.rows...)
		gives(t, q, nil, x.rows...)
		q = read(t, "where false "+x.s)
		gives(t, q, []api.Posting{{Amount: least, Seq: math.MinInt}}, x.rows...)
	}
	// A sum of nothing is 0, also of what is over at every row.
	gives(t, read(t, "where false show sum(seq * 9223372036854775807 * 2)"), few(), line(number(0)))
}

// The columns: By's, then Show's; the table's types are theirs, with rows or without.
func TestP15_1Columns(t *testing.T) {
	q := read(t, "by day, memo, amount, year show count, sum(amount), min(day), max(key), max(seq), sum(line)")
	types := []int{api.TDay, api.TText, api.TMoney, api.TNum, api.TNum, api.TMoney, api.TDay, api.TText, api.TNum, api.TNum}
	for _, rows := range [][]api.Posting{nil, few()} {
		got, why := scansAsPlain(t, q, rows)
		if why != api.OK || !slices.Equal(got.Types, types) || len(got.Rows) != len(rows) {
			t.Errorf("%+v, %d", got, int(why))
		}
		for _, row := range got.Rows {
			for i, c := range row {
				if c.Type != types[i] || c.Type == api.TText && c.Num != 0 || c.Type != api.TText && c.Text != "" {
					t.Errorf("%+v", row)
				}
			}
		}
	}
	got, _ := scansAsPlain(t, read(t, "by day, memo, amount, year show count, sum(amount), min(day), max(key), max(seq), sum(line) limit 0"), few())
	if !slices.Equal(got.Types, types) || len(got.Rows) != 0 {
		t.Errorf("%+v", got)
	}
	// What is shown twice is told twice.
	gives(t, read(t, "by tag, key, tag show sum(amount), count, sum(amount), count order 4 desc, 1 desc limit 1"), few(),
		line(text("rent"), text("k"), text("rent"), cash(500), number(1), cash(500), number(1)))
}

// rankings: rows with a group for each letter; the sums 3, 1, 2, 1, and the counts 1, 2, 1, 2.
func rankings() []api.Posting {
	return []api.Posting{
		{Key: "c", Amount: 2}, {Key: "a", Amount: 3}, {Key: "d", Amount: 0, Tag: "x"}, {Key: "b", Amount: 0, Tag: "y"}, {Key: "d", Amount: 1, Tag: "x"}, {Key: "b", Amount: 1, Tag: "y"},
	}
}

func TestP15_1Orders(t *testing.T) {
	for s, want := range map[string]string{
		"": "abcd", "order 1": "abcd", "order 1 desc": "dcba", "order 2": "bdca", "order 2 desc": "acbd", "order 3": "acbd", "order 3 desc": "bdac",
		"order 2, 1 desc": "dbca", "order 2 desc, 1 desc": "acdb", "order 3, 2": "cabd", "order 3, 2 desc": "acbd", "order 3 desc, 2 desc": "bdac", "order 3, 2 desc, 1 desc": "acdb",
		"order 2, 2 desc": "bdca", "order 2, 2, 2": "bdca", "order 2 desc, 2, 1 desc": "acdb", "order 3, 3 desc, 1 desc": "cadb", "order 1, 2, 3": "abcd", "order 1 desc, 2": "dcba",
		"order 4": "bdca", "order 4 desc, 2, 3 desc": "acbd", "order 5 desc": "bdac", "order 5": "acdb", "order 3 desc, 5": "dbac",
	} {
		// The columns: key, sum, count, the same sum again, the tag (which is empty of a and c).
		q := read(t, "by key show sum(amount), count, sum(amount), min(tag) "+s)
		got, why := scansAsPlain(t, q, rankings())
		if why != api.OK || letters(got) != want {
			t.Errorf("%q: %s, %d; want %s", s, letters(got), int(why), want)
		}
		for limit := range 6 {
			q.Limit = limit
			if got, _ := scansAsPlain(t, q, rankings()); letters(got) != want[:min(limit, 4)] {
				t.Errorf("%q limit %d: %s", s, limit, letters(got))
			}
		}
	}
}

// letters: the keys of a table's rows.
func letters(table api.Table) (s string) {
	for _, row := range table.Rows {
		s += row[0].Text
	}
	return s
}

// Orders by columns of each type, and ties that fall back on By's fields, first to last.
func TestP15_1OrderTypes(t *testing.T) {
	rows := []api.Posting{
		{Seq: -3, Day: 9, Key: "b", Amount: greatest}, {Seq: 10, Day: lastDay, Key: "", Amount: -1}, {Seq: 9, Day: 1, Key: "\xff", Amount: -greatest}, {Seq: 0, Day: 10, Key: "B", Amount: 0},
	}
	for _, x := range []struct {
		s    string
		want []int64 // the seqs
	}{
		{"by seq show count", []int64{-3, 0, 9, 10}}, {"by seq show max(day) order 2", []int64{9, -3, 0, 10}}, {"by seq show max(day) order 2 desc", []int64{10, 0, -3, 9}},
		{"by seq show max(key) order 2", []int64{10, 0, -3, 9}}, {"by seq show max(key) order 2 desc", []int64{9, -3, 0, 10}}, {"by seq show sum(amount) order 2", []int64{9, 10, 0, -3}},
		{"by seq show sum(amount) order 2 desc", []int64{-3, 0, 10, 9}}, {"by seq, day show count order 2", []int64{9, -3, 0, 10}}, {"by seq, key show count order 2 desc", []int64{9, -3, 0, 10}},
		{"by seq, day, key, amount show count order 5, 4", []int64{9, 10, 0, -3}},
	} {
		got, why := scansAsPlain(t, read(t, x.s), rows)
		var seqs []int64
		for _, row := range got.Rows {
			seqs = append(seqs, row[0].Num)
		}
		if why != api.OK || !slices.Equal(seqs, x.want) {
			t.Errorf("%s: %v, %d; want %v", x.s, seqs, int(why), x.want)
		}
	}
	ties := []api.Posting{{Key: "b", Tag: "a", Memo: "y"}, {Key: "a", Tag: "b", Memo: "z"}, {Key: "a", Tag: "b", Memo: "x"}, {Key: "b", Tag: "a", Memo: "x"}, {Key: "a", Tag: "a", Memo: "w"}}
	for s, want := range map[string]string{
		"by key, tag, memo show count": "aaw abx abz bax bay", "by memo, tag, key show count": "waa xab xba yab zba", "by tag, key, memo show count order 4 desc": "aaw abx aby bax baz",
		"by tag, key, memo show count order 2 desc": "abx aby aaw bax baz", "by key, tag, memo show count order 2 desc": "abx abz aaw bax bay", "by key, tag, memo show count order 2, 1 desc, 3 desc": "bay bax aaw abz abx",
	} {
		got, _ := scansAsPlain(t, read(t, s), ties)
		told := ""
		for _, row := range got.Rows {
			told += " " + row[0].Text + row[1].Text + row[2].Text
		}
		if told[1:] != want {
			t.Errorf("%s:%s; want %s", s, told, want)
		}
	}
}

func TestP15_8Limits(t *testing.T) {
	q := read(t, "by key show sum(amount) order 2")
	all := [][]api.Cell{line(text("b"), cash(1)), line(text("d"), cash(1)), line(text("c"), cash(2)), line(text("a"), cash(3))}
	for _, limit := range []int{-1, 4, 5, 1 << 32, math.MaxInt} {
		q.Limit = limit
		gives(t, q, rankings(), all...)
	}
	for limit := range 4 {
		q.Limit = limit
		gives(t, q, rankings(), all[:limit]...)
	}
	q = read(t, "show count")
	for limit, want := range map[int][][]api.Cell{-1: {line(number(6))}, 0: nil, 1: {line(number(6))}, 2: {line(number(6))}, math.MaxInt: {line(number(6))}} {
		q.Limit = limit
		gives(t, q, rankings(), want...)
	}
}

// ErrTyping comes ahead of ErrOverflow; the zero table stands beside both.
func TestP15_1Errors(t *testing.T) {
	bad := []api.Posting{{Day: 0, Amount: least, Seq: math.MinInt}}
	for _, s := range []string{
		"show sum(day)", "where day > 5 show count", "where seq = 1 by day show sum(day), sum(amount)", "where seq > 0 and amount > day show count", "by day show count order 3", "show min(seq = 1)",
	} {
		for _, rows := range [][]api.Posting{nil, few(), bad} {
			fails(t, read(t, s), rows, api.ErrTyping)
		}
	}
	count := []api.Agg{{Kind: api.ACount}}
	for _, q := range []api.Query{
		{}, {Where: -1, Limit: -1}, {Where: 0, Limit: -1, Show: count}, {Where: -2, Limit: -1, Show: count}, {Where: -1, Limit: -2, Show: count}, {Where: -1, Limit: math.MinInt, Show: count}, {Where: -1, Limit: -1, Show: count, By: []int{0}},
		{Where: -1, Limit: -1, Show: count, By: []int{15}}, {Where: -1, Limit: -1, Show: []api.Agg{{Kind: 5}}}, {Where: -1, Limit: -1, Show: []api.Agg{{Kind: api.ASum, Of: 0}}},
		{Where: -1, Limit: -1, Show: count, Orders: []api.Order{{Column: 1}}}, {Where: -1, Limit: -1, Show: count, Orders: []api.Order{{Column: -1}}}, {Where: -1, Limit: -1, Show: count, Nodes: leaf(dayOf(0))},
		{Where: -1, Limit: -1, Show: count, Nodes: leaf(pair(api.QAdd, 0, 0))}, {Where: -1, Limit: -1, Show: count, Nodes: leaf(api.Node{Op: 21})}, {Where: 0, Limit: -1, Show: count, Nodes: leaf(num(1))},
	} {
		for _, rows := range [][]api.Posting{nil, few(), bad} {
			fails(t, q, rows, api.ErrTyping)
		}
	}
	for _, s := range []string{"show sum(amount)", "where seq > 0 show count", "by day show count", "show max(day)", "by amount show count limit 0", "by key show sum(debit) limit 0", "where amount = 0 by key show count order 1 limit 0"} {
		gives(t, read(t, "where false show count"), bad, line(number(0)))
		fails(t, read(t, s), bad, api.ErrOverflow)
		fails(t, read(t, s), append(few(), bad...), api.ErrOverflow)
	}
}

// A sum that is no amount in a group that the limit cuts off.
func TestP15_1OverBehindTheLimit(t *testing.T) {
	rows := []api.Posting{on("A", 1), on("B", greatest), on("B", 1), on("C", 2)}
	for _, s := range []string{"by account show sum(amount)", "by account show sum(amount) limit 0", "by account show sum(amount) limit 1", "by account show count, sum(debit) order 2 limit 1"} {
		fails(t, read(t, s), rows, api.ErrOverflow)
		if _, why := scansAsPlain(t, read(t, s), rows[1:2]); why != api.OK {
			t.Errorf("%s: %d", s, int(why))
		}
	}
	gives(t, read(t, "by account show count limit 1"), rows, line(text("A"), number(1)))
	gives(t, read(t, "where account <> 'B' by account show sum(amount) limit 1"), rows, line(text("A"), cash(1)))
}
