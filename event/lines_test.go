package event

import (
	"math"
	"strings"
	"testing"

	"daybook/api"
)

func parses(t *testing.T, s string, digits int, want api.Event) {
	t.Helper()
	if e, why := Parse(s, digits); why != api.OK || !alike(e, want) {
		t.Fatalf("Parse(%q, %d): %+v, error %d; want %+v", s, digits, e, int(why), want)
	}
}

func refusesLine(t *testing.T, s string, digits int) {
	t.Helper()
	if e, why := Parse(s, digits); why != api.ErrEvent || !alike(e, api.Event{}) {
		t.Fatalf("Parse(%q, %d): %+v, error %d", s, digits, e, int(why))
	}
}

func line(t *testing.T, e api.Event, digits int) string {
	t.Helper()
	s, why := Print(e, digits)
	if why != api.OK {
		t.Fatalf("Print(%+v, %d): error %d", e, digits, int(why))
	}
	return s
}

// ordinaryLines: those of ordinary, with two digits.
func ordinaryLines() []string {
	return []string{
		`open 2024-01-01 Assets asset`,
		`open 2024-01-01 Debts liability`,
		`open 2024-01-01 Own equity`,
		`open 2024-01-01 Income income`,
		`open 2024-01-01 Costs expense`,
		`open 2024-01-02 Assets:Bank`,
		`close 2024-03-01 Assets:Bank`,
		`close 2024-03-01 Assets`,
		`post 2024-02-01 x1 "rent" Assets:Bank -5.00 #flat, Costs 5.01`,
		`post 2024-02-01 x2 A 0.01, A -0.03, A 0.02 #t`,
		`void 2024-02-02 v1 x1 "by mistake"`,
		`void 2024-02-02 v2 v2`,
		`invoice 2024-01-10 i1 Assets:Cust:Ann Income:Work due 2024-02-09 100.00 "a, b"`,
		`invoice 2024-01-10 i2 Assets Income due 2024-01-10 0.01`,
		`pay 2024-02-20 p1 Assets:Cust:Ann Assets:Bank 60.00 "cash"`,
		`pay 2024-02-20 p2 Assets:Bank Assets 60.00`,
		`allot 2024-02-20 a1 p1 i1 60.00`,
		`allot 2024-02-20 a a a 0.01`,
		`lock 2024-01-31`,
	}
}

func TestP5_4And5_5EachKind(t *testing.T) {
	for i, e := range ordinary() {
		want := ordinaryLines()[i]
		if s := line(t, e, 2); s != want {
			t.Errorf("Print(%+v): %q, want %q", e, s, want)
		}
		parses(t, want, 2, e)
	}
}

func TestP5_4Digits(t *testing.T) {
	e := api.Event{Kind: api.KPost, Day: 1, Key: "k", Lines: []api.Line{{Account: "A", Amount: -api.MaxAmount}, {Account: "B", Amount: 7}}}
	for digits, want := range map[int]string{
		0: "post 0001-01-01 k A -9223372036854775807, B 7",
		1: "post 0001-01-01 k A -922337203685477580.7, B 0.7",
		2: "post 0001-01-01 k A -92233720368547758.07, B 0.07",
		6: "post 0001-01-01 k A -9223372036854.775807, B 0.000007",
	} {
		if s := line(t, e, digits); s != want {
			t.Errorf("Print with %d: %q, want %q", digits, s, want)
		}
		parses(t, want, digits, e)
	}
	for _, digits := range []int{-1, api.MaxDigits + 1, math.MinInt, math.MaxInt} {
		for _, e := range []api.Event{e, {}, {Kind: api.KLock, Day: 1}, {Kind: api.KLock}} {
			if s, why := Print(e, digits); s != "" || why != api.ErrArg {
				t.Errorf("Print(%+v, %d): %q, error %d", e, digits, s, int(why))
			}
		}
	}
	for digits := range api.MaxDigits + 1 {
		if s, why := Print(api.Event{}, digits); s != "" || why != api.ErrEvent {
			t.Errorf("Print of no event, %d: %q, error %d", digits, s, int(why))
		}
	}
}

func TestP5_4Length(t *testing.T) {
	for _, e := range someEvents(source(20), 1000) {
		for digits := range api.MaxDigits + 1 {
			s := line(t, e, digits)
			if s != plainPrint(e, digits) {
				t.Fatalf("Print(%+v, %d): %q, want %q", e, digits, s, plainPrint(e, digits))
			}
			if len(s) > 1900 || strings.Trim(s, " !\"#$%&'()*+,-./0123456789:;<=>?@[\\]^_`{|}~"+uppers+lowers) != "" || strings.Contains(s, "\n") {
				t.Fatalf("Print(%+v, %d) has %d bytes: %q", e, digits, len(s), s)
			}
		}
	}
}

func TestP5_5DigitsAndLength(t *testing.T) {
	lock := api.Event{Kind: api.KLock, Day: 738916}
	text := "lock 2024-01-31"
	most := text + strings.Repeat(" ", api.MaxLine-len(text))
	for digits := range api.MaxDigits + 1 {
		parses(t, most, digits, lock)
		parses(t, strings.Repeat("\t", api.MaxLine-len(text))+text, digits, lock)
		for _, s := range []string{most + " ", most + "\n", " " + most, strings.Repeat("x", api.MaxLine+1), strings.Repeat(`"`, api.MaxLine+1), strings.Repeat(" ", 1<<20)} {
			e, why := Parse(s, digits)
			wantNone(t, "a long line", e, why, api.ErrLong)
		}
		for _, s := range []string{strings.Repeat("x", api.MaxLine), strings.Repeat(" ", api.MaxLine), strings.Repeat(",", api.MaxLine), strings.Repeat(`"`, api.MaxLine), most[1:] + "x"} {
			refusesLine(t, s, digits)
		}
	}
	for _, digits := range []int{-1, api.MaxDigits + 1, math.MinInt, math.MaxInt} {
		for _, s := range []string{text, "", "x", most + " "} {
			e, why := Parse(s, digits)
			wantNone(t, "digits", e, why, api.ErrArg)
		}
	}
}

func TestP5_5Amounts(t *testing.T) {
	pay := api.Event{Kind: api.KPay, Day: 1, Key: "k", Account: "A", Other: "B"}
	for _, x := range []struct {
		text   string
		digits int
		want   int64
	}{
		{"5", 2, 500}, {"5", 0, 5}, {"5", 6, 5000000}, {"5.0", 2, 500}, {"05.00", 2, 500}, {"0.1", 6, 100000}, {"0.000001", 6, 1},
		{"92233720368547758.07", 2, api.MaxAmount}, {"9223372036854775807", 0, api.MaxAmount}, {strings.Repeat("0", 39) + "1", 0, 1},
	} {
		pay.Amount = x.want
		parses(t, "pay 0001-01-01 k A B "+x.text, x.digits, pay)
		parses(t, "allot 0001-01-01 k r s "+x.text, x.digits, api.Event{Kind: api.KAllot, Day: 1, Key: "k", Ref: "r", Ref2: "s", Amount: x.want})
		parses(t, "post 0001-01-01 k A -"+x.text[max(0, len(x.text)-39):]+",B "+x.text, x.digits, api.Event{Kind: api.KPost, Day: 1, Key: "k", Lines: []api.Line{{Account: "A", Amount: -x.want}, {Account: "B", Amount: x.want}}})
	}
	for _, text := range []string{"", "0", "-0", "0.00", "-1", "1.001", "1.", ".5", "+1", "1e2", "1-", "--1", "1.0.0", "0x1", "x", "92233720368547758.08", "99999999999999999999999", strings.Repeat("0", 40) + "1", "1 1", "1,", "1,1", "1\n", "1\x00", "1\xff", `"1"`, "#1", "1 #t"} {
		for _, head := range []string{"pay 0001-01-01 k A B ", "invoice 0001-01-01 k A B due 0001-01-01 ", "allot 0001-01-01 k r s "} {
			refusesLine(t, head+text, 2)
		}
	}
	for _, text := range []string{"", "0", "-0", "0.00", "1.001", "1.", ".5", "+1", "92233720368547758.08", "-92233720368547758.08", "-92233720368547758.09", "1 1", "1,1", `"1"`, "#t"} {
		refusesLine(t, "post 0001-01-01 k A "+text+", B 1", 2)
		refusesLine(t, "post 0001-01-01 k A 1, B "+text, 2)
	}
	for _, s := range []string{"pay 0001-01-01 k A B 1.0", "post 0001-01-01 k A 1.0, B 1", "post 0001-01-01 k A -9223372036854775808, B 1"} {
		refusesLine(t, s, 0)
	}
}

// TestP5_5Blanks: spaces and tabs wherever two pieces meet, and where a comma or a memo parts words none at all.
func TestP5_5Blanks(t *testing.T) {
	post := api.Event{Kind: api.KPost, Day: 1, Key: "k", Memo: " a,\"b "[:3], Lines: []api.Line{{Account: "A", Amount: 1, Tag: "t"}, {Account: "B", Amount: -1}, {Account: "C", Amount: 2}}}
	for _, s := range []string{
		`post 0001-01-01 k " a," A 1 #t, B -1, C 2`,
		`post 0001-01-01 k" a,"A 1 #t,B -1,C 2`,
		"\tpost\t0001-01-01\t k \t\" a,\"\tA\t1\t#t\t,\tB\t-1\t,\tC\t2\t",
		"   post   0001-01-01   k   \" a,\"   A   1   #t   ,   B   -1   ,   C   2   ",
		`post 0001-01-01 k " a," A 1 #t ,B -1 ,C 2`,
	} {
		parses(t, s, 0, post)
	}
	parses(t, `void 0001-01-01 k r"m"`, 0, api.Event{Kind: api.KVoid, Day: 1, Key: "k", Ref: "r", Memo: "m"})
	parses(t, `pay 0001-01-01 k A B 1"m"`, 0, api.Event{Kind: api.KPay, Day: 1, Key: "k", Account: "A", Other: "B", Amount: 1, Memo: "m"})
	for _, s := range []string{
		`post 0001-01-01 k " a," A1 #t, B -1, C 2`, `post 0001-01-01 k " a," A 1#t, B -1, C 2`, `post 0001-01-01k A 1, B -1`, `post0001-01-01 k A 1, B -1`, `post 0001-01-01 k A 1, B -1 C 2`,
		"post 0001-01-01 k A 1, B -1\n", "post\n0001-01-01 k A 1, B -1", "\npost 0001-01-01 k A 1, B -1", "post 0001-01-01 k A 1,\nB -1", "post 0001-01-01 k A 1, B -1\r", "post 0001-01-01\vk A 1, B -1", "post 0001-01-01\u00a0k A 1, B -1", "post 0001-01-01 k A 1, B -1\x00", "\ufeffpost 0001-01-01 k A 1, B -1",
	} {
		refusesLine(t, s, 0)
	}
}

func TestP5_5Memos(t *testing.T) {
	for _, memo := range []string{"", " ", "m", "a, b", "#t", "A 1", "~", ",", longMemo(), "due", "\\", "'"} {
		parses(t, `void 0001-01-01 k r "`+memo+`"`, 2, api.Event{Kind: api.KVoid, Day: 1, Key: "k", Ref: "r", Memo: memo})
		parses(t, `post 0001-01-01 k "`+memo+`" A 1, B 2`, 0, api.Event{Kind: api.KPost, Day: 1, Key: "k", Memo: memo, Lines: []api.Line{{Account: "A", Amount: 1}, {Account: "B", Amount: 2}}})
		parses(t, `invoice 0001-01-01 k A B due 0001-01-02 3 "`+memo+`"`, 0, api.Event{Kind: api.KInvoice, Day: 1, Key: "k", Account: "A", Other: "B", Due: 2, Amount: 3, Memo: memo})
		parses(t, `pay 0001-01-01 k A B 3 "`+memo+`"`, 0, api.Event{Kind: api.KPay, Day: 1, Key: "k", Account: "A", Other: "B", Amount: 3, Memo: memo})
	}
	for _, memo := range []string{`"`, `"a`, `a"`, `"a"b"`, `"""`, `"a" "b"`, `"" ""`, `""""`, `"a",`, `,"a"`, `"a" b`, `a`, `#`, `,`, `"` + longMemo() + `m"`, "\"a\tb\"", "\"a\nb\"", "\"\x1f\"", "\"\x7f\"", "\"\xff\"", `"ä"`, `'a'`} {
		for _, head := range []string{"void 0001-01-01 k r ", "pay 0001-01-01 k A B 3 ", "invoice 0001-01-01 k A B due 0001-01-02 3 "} {
			refusesLine(t, head+memo, 0)
		}
		refusesLine(t, `post 0001-01-01 k `+memo+` A 1, B 2`, 0)
	}
	for _, memo := range []string{`""`, `"m"`, `"`} { // kinds without one, and places where none stands
		for _, s := range []string{"open 0001-01-01 A asset ", "open 0001-01-01 A:B ", "close 0001-01-01 A ", "allot 0001-01-01 k r s 1 ", "lock 0001-01-01 ", "post 0001-01-01 k A 1, B 2 ", "post 0001-01-01 k A 1, B 2 #t "} {
			refusesLine(t, s+memo, 0)
		}
		for _, s := range []string{"void 0001-01-01 M k r", "M void 0001-01-01 k r", "void 0001-01-01 k M r", "pay 0001-01-01 k A B M 1", "invoice 0001-01-01 k A B due 0001-01-01 M 1", "post 0001-01-01 M k A 1, B 2", "post 0001-01-01 k A M 1, B 2", "post 0001-01-01 k A 1 M, B 2", "post 0001-01-01 k A 1, M B 2", "open 0001-01-01 M A asset"} {
			refusesLine(t, strings.Replace(s, "M", memo, 1), 0)
		}
	}
}

func TestP5_5Commas(t *testing.T) {
	for _, s := range []string{
		",", "post 0001-01-01 k A 1, B 2,", "post 0001-01-01 k A 1,, B 2", "post 0001-01-01 k , A 1, B 2", "post 0001-01-01, k A 1, B 2", "post, 0001-01-01 k A 1, B 2", ",post 0001-01-01 k A 1, B 2",
		"post 0001-01-01 k A, 1, B 2", "post 0001-01-01 k A 1, #t B 2", "post 0001-01-01 k A 1, B, 2", "post 0001-01-01 k A 1, B 2 ,", "post 0001-01-01 k A 1 B 2", "post 0001-01-01 k A 1; B 2", `post 0001-01-01 k "m", A 1, B 2`, "post 0001-01-01 k A 1, B 2 #t,",
		"open 0001-01-01 A, asset", "open 0001-01-01 A asset,", "open 0001-01-01 A:B,", "close 0001-01-01 A,", "void 0001-01-01 k, r", "void 0001-01-01 k r,", `void 0001-01-01 k r, "m"`, "pay 0001-01-01 k A, B 1", "pay 0001-01-01 k A B 1,", "invoice 0001-01-01 k A B, due 0001-01-01 1", "invoice 0001-01-01 k A B due 0001-01-01 1,", "allot 0001-01-01 k r s, 1", "allot 0001-01-01 k r s 1,", "lock, 0001-01-01", "lock 0001-01-01,", "pay 0001-01-01 k A B 1,000",
	} {
		refusesLine(t, s, 0)
	}
}

func TestP5_5Tags(t *testing.T) {
	for _, tag := range []string{"a", "z", "flat", "a-9", longTag} {
		parses(t, "post 0001-01-01 k A 1 #"+tag+", B 2 #"+tag, 0, api.Event{Kind: api.KPost, Day: 1, Key: "k", Lines: []api.Line{{Account: "A", Amount: 1, Tag: tag}, {Account: "B", Amount: 2, Tag: tag}}})
	}
	for _, tag := range []string{"#", "##", "##a", "#A", "#9", "#-", "#a_", "#a.b", "# a", "a", "a#", "#a #b", "#a#b", "#" + longTag + "t", "#\xff", `#"a"`, `"a"`, "#ä"} {
		refusesLine(t, "post 0001-01-01 k A 1 "+tag+", B 2", 0)
		refusesLine(t, "post 0001-01-01 k A 1, B 2 "+tag, 0)
	}
	refusesLine(t, "post 0001-01-01 k #t A 1, B 2", 0)
	refusesLine(t, "post 0001-01-01 k A #t 1, B 2", 0)
	refusesLine(t, "close 0001-01-01 A #t", 0)
}

func TestP5_5Words(t *testing.T) {
	for _, s := range []string{
		"", " ", "\t", `""`, "x", "Lock 2024-01-01", "LOCK 2024-01-01", "lock", "lock ", "loc 2024-01-01", "locks 2024-01-01", "8 2024-01-01", "2024-01-01", "2024-01-01 lock", "#lock 2024-01-01", `"lock" 2024-01-01`, "lock 2024-01-01 x", "lock 2024-01-01 lock 2024-01-01", "lock 2024-02-30", "lock 2024-1-01", "lock 1", "lock 0000-12-31", "lock 10000-01-01", "lock +024-01-01",
		"open", "open 2024-01-01", "open 2024-01-01 A", "open A asset", "open 2024-01-01 A Asset", "open 2024-01-01 A 1", "open 2024-01-01 A assets", "open 2024-01-01 A asse", "open 2024-01-01 A asset asset", "open 2024-01-01 A asset liability", "open 2024-01-01 asset A", "open 2024-01-01 asset", "open 2024-01-01 A:B asset", "open 2024-01-01 A:B x", "open 2024-01-01 a asset", "open 2024-01-01 A: asset", "open 2024-01-01 A none",
		"close", "close 2024-01-01", "close A", "close A 2024-01-01", "close 2024-01-01 a", "close 2024-01-01 A B", "close 2024-01-01 A asset", "close 2024-01-01 " + longAccount + "x", "close 2024-01-01 A:B:C:D:E:F:G",
		"void", "void 2024-01-01", "void 2024-01-01 k", "void 2024-01-01 k r x", "void 2024-01-01 k/ r", "void 2024-01-01 k r:", "void 2024-01-01 " + longKey + "k r", "void 2024-01-01 k " + longKey + "k",
		"invoice 2024-01-10 k A B due 2024-01-09 1", "invoice 2024-01-10 k A B 2024-01-10 1", "invoice 2024-01-10 k A B Due 2024-01-10 1", "invoice 2024-01-10 k A B due 1", "invoice 2024-01-10 k A B due due 2024-01-10 1", "invoice 2024-01-10 k A A due 2024-01-10 1", "invoice 2024-01-10 k A due 2024-01-10 1", "invoice 2024-01-10 k A B due 2024-01-10", "invoice 2024-01-10 k A B due 2024-01-32 1", `invoice 2024-01-10 k A B "due" 2024-01-10 1`, "invoice 2024-01-10 k A B 1 due 2024-01-10", "invoice 2024-01-10 A k B due 2024-01-10 1", "invoice 2024-01-10 k A B due 2024-01-10 1 x",
		"pay 2024-01-10 k A A 1", "pay 2024-01-10 k A b 1", "pay 2024-01-10 k A 1", "pay 2024-01-10 k A B", "pay 2024-01-10 A B 1", "pay 2024-01-10 k A B 1 x", "pay 2024-01-10 k A B C 1", "pay 2024-01-10 k A B due 2024-01-10 1",
		"allot 2024-01-10 k r 1", "allot 2024-01-10 k r s", "allot 2024-01-10 k r s 1 x", "allot 2024-01-10 k r s t 1", "allot 2024-01-10 k r A:B 1",
		"post", "post 2024-01-10", "post 2024-01-10 k", `post 2024-01-10 k "m"`, "post 2024-01-10 k A", "post 2024-01-10 k A 1", "post 2024-01-10 k A 1, B", "post 2024-01-10 k A 1, 1", "post 2024-01-10 A 1, B 1", "post 2024-01-10 k A 1, b 1", "post 2024-01-10 k 1 A, 1 B", "post 2024-01-10 k x A 1, B 1",
	} {
		refusesLine(t, s, 2)
	}
	// Keys may look like anything that a word of the line is.
	parses(t, "void 2024-01-31 void 2024-01-31", 2, api.Event{Kind: api.KVoid, Day: 738916, Key: "void", Ref: "2024-01-31"})
	parses(t, "allot 2024-01-31 -1 1.00 due 1.00", 2, api.Event{Kind: api.KAllot, Day: 738916, Key: "-1", Ref: "1.00", Ref2: "due", Amount: 100})
}

func TestP5_5HowManyLines(t *testing.T) {
	for n := range 40 {
		s := "post 0001-01-01 k " + strings.TrimSuffix(strings.Repeat("A 1, ", n), ", ")
		if n < 2 || n > api.MaxLines {
			refusesLine(t, s, 0)
			continue
		}
		e, why := Parse(s, 0)
		if why != api.OK || len(e.Lines) != n || Check(e) != api.OK {
			t.Errorf("%d lines: %+v, error %d", n, e, int(why))
		}
	}
}

func TestP5_7ThereAndBack(t *testing.T) {
	for _, e := range someEvents(source(21), 3000) {
		for digits := range api.MaxDigits + 1 {
			parses(t, line(t, e, digits), digits, e)
		}
	}
}

// checkLine holds Parse of any line against the plain one, and looks that what it takes is printed as what reads as the same.
func checkLine(t *testing.T, s string, digits int) bool {
	t.Helper()
	want, good := plainParse(s, digits)
	if !good {
		refusesLine(t, s, digits)
		return false
	}
	parses(t, s, digits, want)
	printed := line(t, want, digits)
	parses(t, printed, digits, want)
	again, _ := Parse(printed, digits)
	if line(t, again, digits) != printed {
		t.Fatalf("%q is printed as %q", printed, line(t, again, digits))
	}
	return true
}

// TestP5_7EveryByte: each byte of a line changed to each other one, taken out, or put in.
func TestP5_7EveryByte(t *testing.T) {
	taken := 0
	lines := append(ordinaryLines(), `post 2024-02-01 x2 "" A 1 #t ,B -1`, `pay 2024-02-20 p1 A B 1 ""`)
	for _, s := range lines {
		for at := range len(s) {
			checkLine(t, s[:at], 2)
			checkLine(t, s[:at]+s[at+1:], 2)
			for value := range 256 {
				b := string([]byte{byte(value)})
				if checkLine(t, s[:at]+b+s[at+1:], 2) {
					taken++
				}
				if checkLine(t, s[:at]+b+s[at:], 2) {
					taken++
				}
			}
		}
	}
	if taken < 10000 {
		t.Errorf("only %d were taken", taken)
	}
}

// TestP5_7AnyPieces: good and bad pieces in any order, and events' lines with pieces changed.
func TestP5_7AnyPieces(t *testing.T) {
	r := source(22)
	some := []string{"open", "close", "post", "void", "invoice", "pay", "allot", "lock", "due", "asset", "expense", "2024-01-31", "2024-02-30", "A", "A:B", "a", "k", "1", "-1", "1.5", "0", "#t", "#", ",", `"m"`, `""`, `"`, "\t", "\n", "x/", "\xff"}
	taken := 0
	for range 60000 {
		digits := r.IntN(api.MaxDigits + 1)
		l, _ := pieces(plainPrint(pick(r, ordinary()...), digits))
		for range r.IntN(4) {
			at := r.IntN(len(l))
			switch r.IntN(3) {
			case 0:
				l[at] = pick(r, some...)
			case 1:
				l = append(l[:at:at], append([]string{pick(r, some...)}, l[at:]...)...)
			case 2:
				l = append(append(l[:at:at], l[at+1:]...), "1")
			}
		}
		s := ""
		for _, piece := range l {
			s += pick(r, " ", " ", " ", "", "\t", "  ") + piece
		}
		if checkLine(t, s, pick(r, digits, digits, r.IntN(api.MaxDigits+1))) {
			taken++
		}
	}
	for range 30000 {
		var l []string
		for range r.IntN(12) {
			l = append(l, pick(r, some...))
		}
		checkLine(t, strings.Join(l, " "), 2)
	}
	if taken < 5000 {
		t.Errorf("only %d were taken", taken)
	}
}

func TestP5_9Digits(t *testing.T) {
	for _, s := range append(ordinaryLines(), "open\t2024-01-01 A equity ", ` void 2024-02-02 v1 x1""`, "lock  0001-01-01") {
		e, why := Parse(s, 2)
		if why != api.OK {
			t.Fatalf("Parse(%q): error %d", s, int(why))
		}
		if e.Amount != 0 || e.Lines != nil {
			continue
		}
		for digits := range api.MaxDigits + 1 {
			parses(t, s, digits, e)
			if line(t, e, digits) != line(t, e, 2) {
				t.Errorf("%q is printed otherwise with %d digits", s, digits)
			}
		}
	}
}
