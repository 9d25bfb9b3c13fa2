package sheet

import (
	"strings"
	"testing"

	"daybook/api"
)

// single: a table of one column.
func single(typ int, cells ...api.Cell) api.Table {
	x := api.Table{Types: []int{typ}}
	for _, c := range cells {
		x.Rows = append(x.Rows, []api.Cell{c})
	}
	return x
}

func TestP17_6Digits(t *testing.T) {
	x := api.Table{Types: []int{api.TMoney, api.TNum}, Rows: [][]api.Cell{{cash(-5), num(-5)}}}
	for digits, want := range []string{"-5  -5", "-0.5  -5", "-0.05  -5", "-0.005  -5", "-0.0005  -5", "-0.00005  -5", "-0.000005  -5"} {
		s, e := table(t, x, digits)
		prints(t, s, e, want)
	}
	for _, digits := range badDigits() {
		for _, x := range []api.Table{{}, x, {Types: []int{0}}, single(api.TDay, dated(0))} {
			s, e := table(t, x, digits)
			refuses(t, api.ErrArg, s, e)
		}
	}
}

func TestP17_6Kinds(t *testing.T) {
	s, e := table(t, single(api.TNum, num(0), num(1), num(-1), num(most), num(least), num(-most)), 2)
	prints(t, s, e, "                   0", "                   1", "                  -1", " 9223372036854775807", "-9223372036854775808", "-9223372036854775807")
	s, e = table(t, single(api.TText, letters(""), letters("a"), letters(" b "), letters(" !~\"'"), letters("   ")), 2)
	prints(t, s, e, "", "a", " b", " !~\"'", "")
	s, e = table(t, single(api.TDay, dated(1), dated(lastDay), dated(738945)), 2)
	prints(t, s, e, "0001-01-01", "9999-12-31", "2024-02-29")
	s, e = table(t, single(api.TBool, truth(0), truth(1)), 2)
	prints(t, s, e, "false", "true")
	s, e = table(t, single(api.TMoney, cash(0), cash(1), cash(-1), cash(most), cash(-most)), 2)
	prints(t, s, e, "                 0.00", "                 0.01", "                -0.01", " 92233720368547758.07", "-92233720368547758.07")
	// All five, either side.
	all := []api.Cell{num(7), letters("a"), dated(5), truth(1), cash(8)}
	wide := []api.Cell{num(100), letters("abc"), dated(6), truth(0), cash(1000)}
	s, e = table(t, api.Table{Types: []int{1, 2, 3, 4, 5}, Rows: [][]api.Cell{all, wide}}, 0)
	prints(t, s, e, "  7  a    0001-01-05  true      8", "100  abc  0001-01-06  false  1000")
}

// A cell's other field is not looked at.
func TestP17_6OtherFields(t *testing.T) {
	bad := "\x00\n\xff"
	x := api.Table{Types: []int{1, 2, 3, 4, 5}, Rows: [][]api.Cell{{{Type: 1, Num: 2, Text: bad}, {Type: 2, Num: least, Text: "t"}, {Type: 3, Num: 3, Text: bad}, {Type: 4, Num: 1, Text: bad}, {Type: 5, Num: 4, Text: bad}}}}
	s, e := table(t, x, 0)
	prints(t, s, e, "2  t  0001-01-03  true  4")
}

func TestP17_6NoElements(t *testing.T) {
	for _, x := range []struct {
		t    api.Table
		want string
	}{
		{api.Table{}, ""}, {api.Table{Types: []int{}, Rows: [][]api.Cell{}}, ""}, {api.Table{Types: []int{1, 2, 3, 4, 5}}, ""},
		{api.Table{Rows: [][]api.Cell{nil}}, "\n"}, {api.Table{Rows: [][]api.Cell{{}, nil, {}}}, "\n\n\n"},
		{api.Table{Types: []int{2, 2}, Rows: [][]api.Cell{{letters(""), letters("")}, {letters("a"), letters("")}, {letters(""), letters("b")}}}, "\na\n   b\n"},
	} {
		s, e := table(t, x.t, 0)
		is(t, x.t, s, e, x.want, api.OK)
	}
}

func TestP17_6Types(t *testing.T) {
	for _, typ := range []int{0, 6, -1, -5, 1 << 32, 1<<32 + 1, most, least} {
		for _, types := range [][]int{{typ}, {1, typ}, {typ, 2}, {1, 2, 3, 4, 5, typ}} {
			s, e := table(t, api.Table{Types: types}, 0)
			refuses(t, api.ErrTyping, s, e)
			row := make([]api.Cell, len(types))
			for i := range row {
				row[i].Type = types[i]
			}
			s, e = table(t, api.Table{Types: types, Rows: [][]api.Cell{row}}, 0)
			refuses(t, api.ErrTyping, s, e)
		}
		s, e := table(t, single(1, api.Cell{Type: typ, Num: 1}), 0)
		refuses(t, api.ErrTyping, s, e)
	}
	// Each type under each other one.
	cells := []api.Cell{num(1), letters("a"), dated(1), truth(1), cash(1)}
	for typ := 1; typ <= 5; typ++ {
		for i, c := range cells {
			s, e := table(t, single(typ, c), 0)
			if i+1 != typ {
				refuses(t, api.ErrTyping, s, e)
			} else if e != api.OK {
				t.Errorf("type %d: %d", typ, e)
			}
		}
	}
}

func TestP17_6Lengths(t *testing.T) {
	for types := range 4 {
		for cells := range 5 {
			x := api.Table{}
			for range types {
				x.Types = append(x.Types, api.TNum)
			}
			good := make([]api.Cell, types)
			for i := range good {
				good[i] = num(1)
			}
			var row []api.Cell
			for range cells {
				row = append(row, num(2))
			}
			x.Rows = [][]api.Cell{good, row}
			s, e := table(t, x, 0)
			if types != cells {
				refuses(t, api.ErrTyping, s, e)
			} else if e != api.OK {
				t.Errorf("%d cells: %d", cells, e)
			}
		}
	}
}

func TestP17_6Cells(t *testing.T) {
	for _, n := range []int64{2, -1, 256, 1 << 32, 1<<32 + 1, most, least} {
		s, e := table(t, single(api.TBool, truth(1), truth(n)), 0)
		refuses(t, api.ErrTyping, s, e)
	}
	for _, n := range badDays() {
		s, e := table(t, single(api.TDay, dated(1), dated(int64(n))), 0)
		refuses(t, api.ErrDay, s, e)
	}
	s, e := table(t, single(api.TMoney, cash(1), cash(least)), 0)
	refuses(t, api.ErrAmount, s, e)
	for b := range 256 {
		for _, text := range []string{string([]byte{byte(b)}), "a" + string([]byte{byte(b)}), string([]byte{byte(b)}) + "a", "ab" + string([]byte{byte(b)}) + "c"} {
			s, e := table(t, single(api.TText, letters("x"), letters(text)), 0)
			if b < 32 || b > 126 {
				refuses(t, api.ErrTyping, s, e)
			} else {
				prints(t, s, e, "x", strings.TrimRight(text, " "))
			}
		}
	}
	// A byte that is wrong stands in a text of another type alone where it is not looked at.
	s, e = table(t, single(api.TText, letters(strings.Repeat("a", 5000)+"\x7f")), 0)
	refuses(t, api.ErrTyping, s, e)
}

func TestP17_6Widths(t *testing.T) {
	x := api.Table{Types: []int{2, 1, 2, 5}, Rows: [][]api.Cell{
		{letters("a"), num(1), letters("long one"), cash(1)},
		{letters("abc"), num(-12345), letters(""), cash(0)},
		{letters(""), num(7), letters("b "), cash(-123456)},
	}}
	s, e := table(t, x, 2)
	prints(t, s, e,
		"a         1  long one      0.01",
		"abc  -12345                0.00",
		"          7  b         -1234.56")
	x = api.Table{Types: []int{2, 2}, Rows: [][]api.Cell{{letters("a"), letters(strings.Repeat(" ", 9))}, {letters("  "), letters(" c")}, {letters("bbb  "), letters("d")}}}
	s, e = table(t, x, 2)
	prints(t, s, e, "a", "        c", "bbb    d")
}
