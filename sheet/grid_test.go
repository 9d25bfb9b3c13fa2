package sheet

import (
	"strings"
	"testing"
)

// same: a thing that is set as it is.
func same(s string) string { return s }

// bare: a row's cell at a place.
func bare(i int) func([]string) string {
	return func(row []string) string { return row[i] }
}

func sidesBy(letters string) []side {
	var l []side
	for _, r := range letters {
		if r == 'r' {
			l = append(l, right)
		} else {
			l = append(l, left)
		}
	}
	return l
}

// laid: a grid of rows; it must be the model's.
func laid(t *testing.T, sides string, rows ...[]string) string {
	t.Helper()
	g := newGrid(sidesBy(sides)...)
	for _, row := range rows {
		g.add(row...)
	}
	got := g.text()
	if want := plainGrid(sides, rows...); got != want {
		t.Fatalf("%s %q:\n%q, want\n%q", sides, rows, got, want)
	}
	return got
}

func TestGridSides(t *testing.T) {
	rows := [][]string{{"a", "bb", "c"}, {"aaa", "b", "cc"}}
	for sides, want := range map[string]string{
		"lll": "a    bb  c\naaa  b   cc\n",
		"rrr": "  a  bb   c\naaa   b  cc\n",
		"lrl": "a    bb  c\naaa   b  cc\n",
		"rlr": "  a  bb   c\naaa  b   cc\n",
	} {
		if got := laid(t, sides, rows...); got != want {
			t.Errorf("%s: %q, want %q", sides, got, want)
		}
	}
}

func TestGridEnds(t *testing.T) {
	for _, x := range []struct {
		sides string
		rows  [][]string
		want  string
	}{
		{"", nil, ""},
		{"l", nil, ""},
		{"", [][]string{{}}, "\n"},
		{"lr", [][]string{{}, {"a", "b"}, {}}, "\na  b\n\n"},
		{"lr", [][]string{{"", ""}, {"a", "b"}, {""}}, "\na  b\n\n"},
		{"llr", [][]string{{"a", "", ""}, {"", "b", ""}, {"", "", "c"}}, "a\n   b\n      c\n"},
		{"rrl", [][]string{{"aa", "", ""}, {"", "b", ""}, {"", "", "c"}, {"a"}, {"a", "b"}}, "aa\n    b\n       c\n a\n a  b\n"},
		// Blanks of the cells' own.
		{"l", [][]string{{"   "}, {" a "}, {"a   b  "}}, "\n a\na   b\n"},
		{"r", [][]string{{"   "}, {" a "}, {"a   b  "}}, "\n     a\na   b\n"},
		{"ll", [][]string{{"a ", "  "}, {"", " b"}}, "a\n     b\n"},
		{"lr", [][]string{{"a ", " "}, {"   ", "b "}, {"", "c"}}, "a\n     b\n      c\n"},
	} {
		if got := laid(t, x.sides, x.rows...); got != x.want {
			t.Errorf("%s %q: %q, want %q", x.sides, x.rows, got, x.want)
		}
	}
}

// The same texts, set by a type of things of their own.
func TestGridSets(t *testing.T) {
	g := newGrid(left, right)
	set(g, []string{"a", "bbb"}, same, strings.ToUpper)
	set(g, [][]string{{"cc", "d"}, {"e", "ffff"}}, bare(0), bare(1))
	set(g, []int{}, func(int) string { return "none" })
	g.add("g")
	set(g, []bool{true}, func(bool) string { return "" }, func(is bool) string { return map[bool]string{true: "yes"}[is] })
	if got, want := g.text(), "a       A\nbbb   BBB\ncc      d\ne    ffff\ng\n      yes\n"; got != want {
		t.Errorf("%q, want %q", got, want)
	}
}

// All small grids: up to three rows of up to three cells, each empty, short, long, or with blanks at its ends.
func TestGridAllSmall(t *testing.T) {
	r := source(1)
	cells := []string{"", "a", "bbb", " ", "   ", " c", "d ", " e "}
	for range 20000 {
		sides := ""
		for range 3 {
			sides += string("lr"[r.IntN(2)])
		}
		var rows [][]string
		for range r.IntN(4) {
			var row []string
			for range r.IntN(4) {
				row = append(row, cells[r.IntN(len(cells))])
			}
			rows = append(rows, row)
		}
		laid(t, sides, rows...)
	}
}

// One long cell costs its own bytes, not those of every row beside it.
func TestGridLongCell(t *testing.T) {
	long := strings.Repeat("x", 1<<20)
	g := newGrid(left, left)
	g.add(long, "")
	for range 100000 {
		g.add("a", "")
	}
	if got := g.text(); got != long+"\n"+strings.Repeat("a\n", 100000) {
		t.Errorf("%d bytes", len(got))
	}
}
