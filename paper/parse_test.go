package paper

import (
	"fmt"
	"math"
	"slices"
	"strings"
	"testing"

	"daybook/api"
)

const headLine = "post 2024-02-01 x1"

// post: what the head above makes of some lines.
func post(l ...api.Line) api.Event {
	return api.Event{Kind: api.KPost, Day: 738917, Key: "x1", Lines: l}
}

// line: one of a posting, with no tag.
func line(account string, amount int64) api.Line { return api.Line{Account: account, Amount: amount} }

// lockLine, locked: a line, and what it is read as.
const lockLine = "lock 2024-01-31"

var locked = api.Event{Kind: api.KLock, Day: 738916}

func TestP16_1Ends(t *testing.T) {
	for _, text := range []string{"", "\n", "\n\n\n", " ", "\t", " \n\t\n \t", ";", ";\n", "; a\n ;b\n\t;c", ";\n\n;", "\n;\n \n"} {
		reads(t, text, 2)
	}
	for _, text := range []string{lockLine, lockLine + "\n", "\n" + lockLine, "\n\n" + lockLine + "\n\n", ";\n" + lockLine + "\n;", lockLine + "\n ", " \n" + lockLine + " \n\t"} {
		reads(t, text, 2, locked)
	}
	pair := joined(headLine, " A 5", " B -5")
	for _, end := range []string{"", "\n", "\n;", "\n;\n", "\n\n", "\n \n", "\n;\n\n;"} {
		reads(t, strings.TrimSuffix(pair, "\n")+end, 0, post(line("A", 5), line("B", -5)))
	}
	// A line behind the last byte 10 is one only if it has bytes: the fault of the leg there is told at its number.
	refuses(t, "\n\n 5", 2, 3, 1, api.ErrPaper)
	refuses(t, "\n\n 5\n", 2, 3, 1, api.ErrPaper)
}

func TestP16_1EachKindOnALine(t *testing.T) {
	for digits := range api.MaxDigits + 1 {
		for i, text := range lines(kinds(), digits) {
			for _, end := range []string{"", "\n", " \n", "\t\n;\n"} {
				reads(t, text+end, digits, kinds()[i])
			}
			refuses(t, " "+text, digits, 1, 1, api.ErrPaper)
			refuses(t, "\t "+text+"\n", digits, 1, 2, api.ErrPaper)
			refuses(t, "x"+text, digits, 1, 0, api.ErrPaper)
			refuses(t, text+" x", digits, 1, 0, api.ErrPaper)
			refuses(t, text+"\r\n", digits, 1, 0, api.ErrPaper)
		}
		reads(t, joined(lines(kinds(), digits)...), digits, kinds()...)
		reads(t, strings.Join(lines(kinds(), digits), "\n\n"), digits, kinds()...)
	}
}

// TestP16_1FirstBytes: what a line is hangs on its first bytes; each is put at the start, behind a head, and behind a leg.
func TestP16_1FirstBytes(t *testing.T) {
	for _, blanks := range []string{"", " ", "\t", "  ", "\t\t", " \t", "\t ", " \t \t"} {
		at := len(blanks)
		for _, remark := range []string{";", "; ", ";;", ";A 5", "; A 5", ";\r", ";\"", ";\x00\xff"} {
			reads(t, blanks+remark, 2)
			reads(t, joined(headLine, blanks+remark, " A 5", blanks+remark, " B", blanks+remark, lockLine), 0, post(line("A", 5), line("B", -5)), locked)
		}
		reads(t, blanks, 2)
		reads(t, joined(headLine, " A 5", " B", blanks, lockLine), 0, post(line("A", 5), line("B", -5)), locked)
		refuses(t, joined(headLine, blanks, " A 5", " B"), 0, 1, 0, api.ErrPaper)
		refuses(t, joined(headLine, " A 5", blanks, " B"), 0, 1, 0, api.ErrPaper)
		for _, text := range []string{"\r", "\v", "\f", "\x00", "\x1f", "\x7f", "\u00a0", "\xff", ",", "\"", ":", "#", "#t", "5", "a", "A,", "A;", "A ;", "A\r", "-"} {
			refuses(t, blanks+text, 2, 1, at, api.ErrPaper)
			refuses(t, joined("", blanks+text), 2, 2, at, api.ErrPaper)
			if at > 0 {
				refuses(t, joined(headLine, blanks+text, " A 5", " B"), 2, 2, at, api.ErrPaper)
				refuses(t, joined(headLine, " A 5", " B", blanks+text), 2, 4, at, api.ErrPaper)
			} else {
				refuses(t, joined(headLine, text, " A 5", " B"), 2, 1, 0, api.ErrPaper)
				refuses(t, joined(headLine, " A 5", " B", text), 2, 4, 0, api.ErrPaper)
			}
		}
	}
	reads(t, joined(headLine, "\tA\t5\t#t\t", " \t B \t -5 \t "), 0, post(api.Line{Account: "A", Amount: 5, Tag: "t"}, line("B", -5)))
}

func TestP16_1Heads(t *testing.T) {
	legs := joined("", " A 5", " B -5")
	memo := strings.Repeat("m", api.MaxMemo)
	key := strings.Repeat("k", api.MaxKey)
	for text, want := range map[string]api.Event{
		headLine:                               post(),
		headLine + ` "rent"`:                   {Day: 738917, Key: "x1", Memo: "rent"},
		headLine + `"rent"`:                    {Day: 738917, Key: "x1", Memo: "rent"},
		headLine + ` ""`:                       {Day: 738917, Key: "x1"},
		headLine + ` "a, b; #c"`:               {Day: 738917, Key: "x1", Memo: "a, b; #c"},
		headLine + ` "` + memo + `"`:           {Day: 738917, Key: "x1", Memo: memo},
		headLine + ` " ~"`:                     {Day: 738917, Key: "x1", Memo: " ~"},
		"post\t2024-02-01 \t" + key + "\t ":    {Day: 738917, Key: key},
		"post 0001-01-01 -":                    {Day: api.MinDay, Key: "-"},
		"post 9999-12-31 post":                 {Day: api.MaxDay, Key: "post"},
		"post 2024-02-29 2024-02-01 \"post\" ": {Day: 738945, Key: "2024-02-01", Memo: "post"},
	} {
		want.Kind, want.Lines = api.KPost, []api.Line{line("A", 5), line("B", -5)}
		reads(t, text+legs, 0, want)
		refuses(t, text, 0, 1, 0, api.ErrPaper) // a head alone
		refuses(t, " "+text+legs, 0, 1, 1, api.ErrPaper)
	}
	for _, text := range []string{
		"post", "post 2024-02-01", "post x1", "post 2024-02-01 \"rent\"", "post \"rent\"", "post x1 2024-02-01", "post 2024-02-01 \"rent\" x1", "post \"rent\" 2024-02-01 x1",
		headLine + " x2", headLine + ` "a" "b"`, headLine + ` "a" x`, headLine + ",", headLine + ` ,"a"`, headLine + `, "a"`, headLine + ` "a",`, "post, 2024-02-01 x1", "post 2024-02-01, x1", headLine + " A", headLine + " A 5", headLine + " #t", headLine + " ;",
		"Post 2024-02-01 x1", "posts 2024-02-01 x1", "pos 2024-02-01 x1", "post2024-02-01 x1", "lock 2024-01-31 x1", "\"post\" 2024-02-01 x1", "post 2024-02-01x1",
		"post 2024-02-30 x1", "post 2023-02-29 x1", "post 2024-2-1 x1", "post 0000-12-31 x1", "post 10000-01-01 x1", "post 2024-02-01- x1", "post 738917 x1", "post \"2024-02-01\" x1",
		"post 2024-02-01 x:1", "post 2024-02-01 x#", "post 2024-02-01 ä", "post 2024-02-01 x\r", "post 2024-02-01 " + key + "k", "post 2024-02-01 ;", `post 2024-02-01 "x1"`, "post 2024-02-01 ,",
		headLine + ` "` + memo + `m"`, headLine + ` "a`, headLine + ` a"`, headLine + ` "`, headLine + ` "a"b"`, headLine + " \"a\tb\"", headLine + " \"\x1f\"", headLine + " \"\x7f\"", headLine + " \"ä\"", headLine + " 'a'", headLine + "\r", headLine + " \r",
	} {
		refuses(t, text, 0, 1, 0, api.ErrPaper)
		refuses(t, text+legs, 0, 1, 0, api.ErrPaper)
		refuses(t, joined(text, " a", filled(";", api.MaxLine+1)), 0, 1, 0, api.ErrPaper) // it is found ahead of all behind it
		refuses(t, joined(headLine, " A 5", " B", text), 0, 4, 0, api.ErrPaper)
		asPlain(t, joined("", text)+legs, 0)
	}
}

// amountTexts: the texts of amounts with two digits, and what they say.
var amountTexts = map[string]int64{
	"5": 500, "-5": -500, "5.0": 500, "5.00": 500, "-0.01": -1, "007": 700, "-000.10": -10, "92233720368547758.07": api.MaxAmount, "-92233720368547758.07": -api.MaxAmount, strings.Repeat("0", 39) + "1": 100,
}

func TestP16_1Legs(t *testing.T) {
	for text, amount := range amountTexts {
		for _, tag := range []string{"", "t", "a-9", longTag} {
			for _, account := range []string{"A", "Assets:Cust:Ann", longAccount} {
				want := api.Line{Account: account, Amount: amount, Tag: tag}
				leg := " " + account + " " + text
				open := " " + account
				if tag != "" {
					leg += " #" + tag
					open += " #" + tag
				}
				reads(t, joined(headLine, leg, " B 1"), 2, post(want, line("B", 100)))
				reads(t, joined(headLine, " B 1", leg+" \t"), 2, post(line("B", 100), want))
				reads(t, joined(headLine, leg, " B"), 2, post(want, line("B", -amount)))
				reads(t, joined(headLine, " B "+text, open), 2, post(line("B", amount), api.Line{Account: account, Amount: -amount, Tag: tag}))
			}
		}
	}
	for _, leg := range []string{
		"A 0", "A -0", "A 0.00", "A -0.0", "A 000", "A 0 #t", // an amount that is 0
		"A 5.", "A .5", "A 5.001", "A +5", "A 5e2", "A --5", "A 5-", "A 5.0.0", "A 0x5", "A x", "A 92233720368547758.08", "A -92233720368547758.08", "A " + strings.Repeat("0", 40) + "1", "A \"5\"", "A 5\r", // no amount's text
		"A 5 #", "A #", "A 5 #T", "A 5 #9", "A 5 #-", "A 5 #t#", "A 5 ##t", "A 5 #t_", "A 5 #" + longTag + "x", "A # t", "A 5 # t", "A 5 t", "A 5#t", "A#t", "A #t\r", "A 5 \"t\"", "A #ä", // no tag
		"A 5 #t #u", "A #t 5", "A #t #u", "A 5 6", "A 5 6 #t", "A B", "A B 5", "A 5 #t 6", "A 5 B", "A 5 #t x", "A A", "A 5 #t ;", "A 5 ;", "A ;", // too many words
		"a 5", "assets 5", "5", "9A 5", "-A 5", "#t", "A: 5", ":A 5", "A::B 5", "A:b 5", "A_ 5", "A\r 5", "Ä 5", longPart + "x 5", longAccount + ":A 5", longAccount + "x 5", "a", "-5", // no account's name
		"A 5,", "A 5, B -5", ", A 5", "A, 5", "A,", ",", "A 5 \"m\"", "\"A\" 5", "\"\"", "A\"\"", "A \"", "\"", "A 5 \"", "A 5 #t\"", "post 2024-02-01 x1", lockLine, // other pieces than words
	} {
		refuses(t, joined(headLine, " "+leg, " B 5"), 2, 2, 1, api.ErrPaper)
		refuses(t, joined(headLine, " B 5", "\t "+leg), 2, 3, 2, api.ErrPaper)
		refuses(t, joined(headLine, " B 5", " C", "", headLine, " B 5", " C", "  \t"+leg+"\t"), 2, 8, 3, api.ErrPaper)
		refuses(t, joined(headLine, " B", " C", "; two open ones", " "+leg), 2, 5, 1, api.ErrPaper)
	}
}

// TestP16_1OpenLeg: amounts of the others, and what the open leg is, at every place among them: 0 where it can't be.
func TestP16_1OpenLeg(t *testing.T) {
	most := int64(api.MaxAmount)
	for _, x := range []struct {
		others []int64
		want   int64
	}{
		{[]int64{5}, -5}, {[]int64{-5}, 5}, {[]int64{most}, -most}, {[]int64{-most}, most}, {[]int64{5, -3}, -2},
		{[]int64{5, -5}, 0}, {[]int64{most, -most}, 0}, {[]int64{1, 2, -3}, 0}, {[]int64{most, most, -most, -most}, 0},
		{[]int64{most, 1}, 0}, {[]int64{-most, -1}, 0}, {[]int64{most, most}, 0}, {[]int64{-most, -2}, 0}, {[]int64{-most, -most, -2}, 0}, {[]int64{most, most, 2}, 0}, {[]int64{most, most, 3}, 0},
		{[]int64{most, most, -most}, -most}, {[]int64{-most, -most, most}, most}, {[]int64{most, 1, -1}, -most}, {[]int64{-most, -1, 1}, most}, {[]int64{-most, -1, -1, 2}, most},
		{[]int64{most, most, most, -most, -most, -most, 7}, -7}, {[]int64{most, most, most, most, -most, -most, -most, 1, -2}, -(most - 1)}, {[]int64{most, most, most, -most, -most, 1}, 0},
	} {
		for at := range len(x.others) + 1 {
			var legs []string
			var want []api.Line
			for _, a := range x.others {
				legs = append(legs, fmt.Sprintf(" A %d", a))
				want = append(want, line("A", a))
			}
			legs = slices.Insert(legs, at, " B #t")
			want = slices.Insert(want, at, api.Line{Account: "B", Amount: x.want, Tag: "t"})
			text := joined(slices.Concat([]string{headLine}, legs, []string{"", lockLine})...)
			if x.want == 0 {
				refuses(t, text, 0, 1, 0, api.ErrPaper)
				refuses(t, "\n;\n"+text, 0, 3, 0, api.ErrPaper)
				continue
			}
			reads(t, text, 0, post(want...), locked)
			// A second open leg, wherever it stands.
			for second := range len(legs) + 1 {
				refuses(t, joined(slices.Concat([]string{"", headLine}, slices.Insert(slices.Clone(legs), second, " C"))...), 0, 2, 0, api.ErrPaper)
			}
		}
	}
	refuses(t, joined(headLine, " A", " A"), 0, 1, 0, api.ErrPaper)
	refuses(t, joined(headLine, " A"), 0, 1, 0, api.ErrPaper)
	refuses(t, joined(headLine, " A", " A 5", " A"), 0, 1, 0, api.ErrPaper)
	// None is open: what the lines add up to is the books' business.
	reads(t, joined(headLine, " A 5", " B 6"), 0, post(line("A", 5), line("B", 6)))
	reads(t, joined(headLine, fmt.Sprint(" A ", most), fmt.Sprint(" B ", most)), 0, post(line("A", most), line("B", most)))
}

// TestP16_1HowManyLegs: none and one are too few, as many as an event may have are good, one more is not.
func TestP16_1HowManyLegs(t *testing.T) {
	for n := range api.MaxLines + 4 {
		for open := -1; open < n; open++ {
			legs := slices.Repeat([]string{" A 1"}, n)
			want := slices.Repeat([]api.Line{line("A", 1)}, n)
			if open >= 0 {
				legs[open] = " B"
				want[open] = line("B", int64(1-n))
			}
			text := joined(slices.Concat([]string{"", headLine}, legs, []string{lockLine})...)
			if n < 2 || n > api.MaxLines {
				refuses(t, text, 0, 2, 0, api.ErrPaper)
			} else {
				reads(t, text, 0, post(want...), locked)
			}
		}
	}
	// Far more than are ever kept.
	refuses(t, headLine+"\n"+strings.Repeat(" A\n", (api.MaxText-len(headLine)-1)/3), 0, 1, 0, api.ErrPaper)
	refuses(t, headLine+"\n"+strings.Repeat(" A 1\n", 70000)+" a", 0, 70002, 1, api.ErrPaper)
}

// TestP16_1PostingsEnd: good postings, and ones at fault, before each line that ends one, with remarks at each place.
func TestP16_1PostingsEnd(t *testing.T) {
	pair := post(line("A", 5), line("B", -5))
	other := post(line("C", 1), line("D", -1))
	other.Key = "x2"
	ends := []struct {
		lines  []string
		events []api.Event
	}{
		{nil, nil}, {[]string{""}, nil}, {[]string{" \t"}, nil}, {[]string{";"}, nil}, {[]string{" ;", ""}, nil}, {[]string{";", ";", "\t"}, nil},
		{[]string{lockLine}, []api.Event{locked}}, {[]string{";", lockLine}, []api.Event{locked}}, {[]string{"", lockLine}, []api.Event{locked}},
		{[]string{"post 2024-02-01 x2", " C", " D -1"}, []api.Event{other}}, {[]string{"  ; r", "post 2024-02-01 x2 \"\"", "; r", " C 1", "; r", " D", ";"}, []api.Event{other}},
		{[]string{"post 2024-02-01 x2 C 1, D -1"}, []api.Event{other}}, {[]string{";", "post 2024-02-01 x2 C 1, D -1"}, []api.Event{other}},
	}
	for _, end := range ends {
		for _, l := range [][]string{
			{" A 5", " B"}, {";", " A 5", " B"}, {" A 5", "  ; r", " B -5"}, {" A", " B -5", "\t;"}, {";", ";", " A 5", ";", ";", " B", ";", ";"},
		} {
			reads(t, joined(slices.Concat([]string{headLine}, l, end.lines)...), 0, slices.Concat([]api.Event{pair}, end.events)...)
		}
		for _, l := range [][]string{
			nil, {";"}, {" A 5"}, {" A"}, {" A", " B"}, {" A 5", " B -5", " C"}, {";", " A 5", ";"}, {" A", ";", " B"}, slices.Repeat([]string{" A 1"}, 13),
		} {
			refuses(t, joined(slices.Concat([]string{";", headLine}, l, end.lines)...), 0, 2, 0, api.ErrPaper)
		}
	}
}

// TestP16_1LegsWithoutAHead: behind what no head stands directly ahead of a leg, remarks and its legs apart.
func TestP16_1LegsWithoutAHead(t *testing.T) {
	for _, ahead := range [][]string{
		nil, {""}, {" "}, {";"}, {"", ";", ""}, {lockLine}, {lockLine, ";"}, {lockLine, ""}, {"post 2024-02-01 x1 A 5, B -5"}, {"post 2024-02-01 x1 A 5, B -5", "  ; r"},
		{headLine, " A 5", " B", ""}, {headLine, " A 5", " B", "\t"}, {headLine, " A 5", " B", ";", " ", ";"}, {headLine, " A 5", " B", lockLine}, {headLine, " A 5", " B", lockLine, ";"},
		{headLine, " A 5", " B", "post 2024-02-01 x2 A 5, B -5"},
	} {
		for _, leg := range []string{"  C 1", "  C", "  C 1 #t", "  c", "  \"", "  " + lockLine, "  " + headLine} {
			refuses(t, joined(append(slices.Clone(ahead), leg)...), 0, len(ahead)+1, 2, api.ErrPaper)
			refuses(t, joined(append(slices.Clone(ahead), leg, " D -1", "x")...), 0, len(ahead)+1, 2, api.ErrPaper)
		}
	}
	// Of a head without legs it is the head.
	for _, ahead := range [][]string{{headLine, ""}, {headLine, ";", " "}, {headLine, lockLine}, {headLine, "x"}, {headLine, " A 1", ""}} {
		refuses(t, joined(append(slices.Clone(ahead), "  C 1")...), 0, 1, 0, api.ErrPaper)
	}
}

func TestP16_1Digits(t *testing.T) {
	texts := []string{"", "x", lockLine, " A", headLine, strings.Repeat(";", api.MaxText+1), strings.Repeat("x", api.MaxLine+1)}
	for _, digits := range []int{-1, api.MaxDigits + 1, math.MinInt, math.MaxInt} {
		for _, text := range texts {
			refuses(t, text, digits, 0, 0, api.ErrArg)
		}
	}
	for digits := range api.MaxDigits + 1 {
		reads(t, lockLine, digits, locked)
		unit := int64(math.Pow10(digits))
		reads(t, joined(headLine, " A 5", " B"), digits, post(line("A", 5*unit), line("B", -5*unit)))
		deepest := "0." + strings.Repeat("0", max(0, digits-1)) + "1"
		if digits == 0 {
			deepest = "1"
			refuses(t, joined(headLine, " A 1.0", " B"), digits, 2, 1, api.ErrPaper)
		}
		reads(t, joined(headLine, " A "+deepest, " B"), digits, post(line("A", 1), line("B", -1)))
		refuses(t, joined(headLine, " A 0."+strings.Repeat("0", digits)+"1", " B"), digits, 2, 1, api.ErrPaper)
		refuses(t, joined("pay 2024-02-20 p1 A B 0."+strings.Repeat("0", digits)+"1"), digits, 1, 0, api.ErrPaper)
	}
}
