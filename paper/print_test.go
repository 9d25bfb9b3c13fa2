package paper

import (
	"fmt"
	"math"
	"slices"
	"strings"
	"testing"

	"daybook/api"
)

func TestP16_2EachKind(t *testing.T) {
	for digits := range api.MaxDigits + 1 {
		for i, e := range kinds() {
			want := lines(kinds(), digits)[i] + "\n"
			if e.Kind == api.KPost {
				want = plainPrint([]api.Event{e}, digits)
			}
			prints(t, []api.Event{e}, digits, want)
			prints(t, []api.Event{e, e, locked}, digits, want+want+lockLine+"\n")
		}
		prints(t, kinds(), digits, plainPrint(kinds(), digits))
		prints(t, nil, digits, "")
		prints(t, []api.Event{}, digits, "")
	}
}

func TestP16_2Postings(t *testing.T) {
	tagged := func(account string, amount int64, tag string) api.Line {
		return api.Line{Account: account, Amount: amount, Tag: tag}
	}
	most := int64(api.MaxAmount)
	for _, x := range []struct {
		memo   string
		l      []api.Line
		digits int
		want   []string
	}{
		{"", []api.Line{line("A", 5), line("B", -5)}, 0, []string{
			"post 2024-02-01 x1",
			"  A   5",
			"  B  -5",
		}},
		{"rent", []api.Line{tagged("Assets:Bank", -500, "flat"), line("Assets:Cust:Ann", 500)}, 2, []string{
			`post 2024-02-01 x1 "rent"`,
			"  Assets:Bank      -5.00 #flat",
			"  Assets:Cust:Ann   5.00",
		}},
		{" ", []api.Line{tagged("A", 12345, "t"), tagged("Abc", -1, longTag), tagged("Ab", 99, "u")}, 2, []string{
			`post 2024-02-01 x1 " "`,
			"  A    123.45 #t",
			"  Abc   -0.01 #" + longTag,
			"  Ab     0.99 #u",
		}},
		{"", []api.Line{line("Abc", -100), line("A", 1)}, 2, []string{
			"post 2024-02-01 x1",
			"  Abc  -1.00",
			"  A     0.01",
		}},
		{"a, b", []api.Line{line("A", most), line("B", -most), line("C", 1)}, 6, []string{
			`post 2024-02-01 x1 "a, b"`,
			"  A   9223372036854.775807",
			"  B  -9223372036854.775807",
			"  C               0.000001",
		}},
		{"", []api.Line{line("A", 10), line("B", 10)}, 1, []string{
			"post 2024-02-01 x1",
			"  A  1.0",
			"  B  1.0",
		}},
		{"", []api.Line{tagged(longAccount, 1, longTag), line("B", -most)}, 0, []string{
			"post 2024-02-01 x1",
			"  " + longAccount + "                     1 #" + longTag,
			"  B" + strings.Repeat(" ", 102) + "-9223372036854775807",
		}},
	} {
		e := post(x.l...)
		e.Memo = x.memo
		prints(t, []api.Event{e}, x.digits, joined(x.want...))
	}
	// Each posting by itself.
	prints(t, []api.Event{post(line("Abc", 1000), line("B", -1000)), post(line("A", 1), line("B", 2))}, 0, joined(headLine, "  Abc   1000", "  B    -1000", headLine, "  A  1", "  B  2"))
}

func TestP16_2Lengths(t *testing.T) {
	for names := 1; names <= 16; names++ {
		for power := range 19 {
			amount := int64(math.Pow10(power))
			for digits := range api.MaxDigits + 1 {
				for _, e := range []api.Event{
					post(line("A"+strings.Repeat("b", names-1), amount), line("Abcdef", -7)),
					post(line("Abcdef", -amount), api.Line{Account: "A" + strings.Repeat("b", names-1), Amount: 12345, Tag: "t"}),
				} {
					prints(t, []api.Event{e}, digits, plainPrint([]api.Event{e}, digits))
				}
			}
		}
	}
	for n := 2; n <= api.MaxLines; n++ {
		e := post()
		for i := range n {
			e.Lines = append(e.Lines, line(fmt.Sprint("A", strings.Repeat("x", i)), int64(i+1)))
		}
		prints(t, []api.Event{e}, 2, plainPrint([]api.Event{e}, 2))
	}
}

// invalid: events that are not valid, of each kind and of none.
func invalid() []api.Event {
	l := []api.Event{{}, {Kind: -1, Day: 1}, {Kind: 9, Day: 1}, post(), post(line("A", 1)), post(slices.Repeat([]api.Line{line("A", 1)}, 13)...), post(line("A", 1), line("B", 0)), post(line("A", 1), line("B", math.MinInt64)), post(line("A", 1), line("b", 1)), post(line("A", 1), api.Line{Account: "B", Amount: 1, Tag: "T"})}
	for _, e := range kinds() {
		for _, change := range []func(*api.Event){
			func(e *api.Event) { e.Day = 0 },
			func(e *api.Event) { e.Day = api.MaxDay + 1 },
			func(e *api.Event) { e.Account += ":" },
			func(e *api.Event) { e.Memo += "\n" },
			func(e *api.Event) { e.Memo += `"` },
			func(e *api.Event) { e.Key += " " },
			func(e *api.Event) { e.Amount = -1 },
			func(e *api.Event) { e.Type += 6 },
		} {
			bad := copied([]api.Event{e})[0]
			change(&bad)
			l = append(l, bad)
		}
	}
	return l
}

func TestP16_2Refusals(t *testing.T) {
	bad := invalid()
	for digits := range api.MaxDigits + 1 {
		for _, e := range bad {
			refusesEvents(t, []api.Event{e}, digits, api.ErrPaper)
			refusesEvents(t, []api.Event{e, locked}, digits, api.ErrPaper)
			refusesEvents(t, []api.Event{locked, post(line("A", 5), line("B", -5)), e}, digits, api.ErrPaper)
		}
	}
	long := slices.Repeat([]api.Event{locked}, api.MaxText/16+1)
	for _, digits := range []int{-1, api.MaxDigits + 1, math.MinInt, math.MaxInt} {
		for _, l := range [][]api.Event{nil, {locked}, bad, long, slices.Concat(long, bad)} {
			refusesEvents(t, l, digits, api.ErrArg)
		}
	}
	refusesEvents(t, long, 2, api.ErrLong)
	refusesEvents(t, append(slices.Clone(long), api.Event{}), 2, api.ErrPaper)
	refusesEvents(t, append([]api.Event{{}}, long...), 2, api.ErrPaper)
}

// TestP16_2LongTexts: just as many bytes as a text may have, with each sort of event at the end; one more; many more.
func TestP16_2LongTexts(t *testing.T) {
	for _, last := range []api.Event{
		{Kind: api.KVoid, Day: 1, Key: "v", Ref: "r"},
		{Kind: api.KPay, Day: 1, Key: "p", Account: "A", Other: "B", Amount: 5},
		post(line("Assets:Bank", 5), line("Assets", -5)),
		post(slices.Repeat([]api.Line{{Account: longAccount, Amount: 1, Tag: longTag}}, api.MaxLines)...),
	} {
		for memo := 1; memo <= 16; memo++ {
			last.Memo = strings.Repeat("m", memo)
			own := plainPrint([]api.Event{last}, 2)
			if (api.MaxText-len(own))%16 != 0 {
				continue
			}
			n := (api.MaxText - len(own)) / 16
			l := append(slices.Repeat([]api.Event{locked}, n), last)
			text := strings.Repeat(lockLine+"\n", n) + own
			if len(text) != api.MaxText {
				t.Fatalf("%d bytes", len(text))
			}
			prints(t, l, 2, text)
			reads(t, text, 2, l...)
			l[n].Memo += "m"
			refusesEvents(t, l, 2, api.ErrLong)
			l[n].Memo = last.Memo
			refusesEvents(t, append(l, locked), 2, api.ErrLong)
			refusesEvents(t, slices.Concat(l, l, l), 2, api.ErrLong)
		}
	}
}
