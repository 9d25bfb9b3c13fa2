package paper

import (
	"slices"
	"strings"
	"testing"

	"daybook/api"
)

// filled: a line with so many bytes, of which the last ones are blanks.
func filled(s string, size int) string { return s + strings.Repeat(" ", size-len(s)) }

// TestP16_1LongLines: each sort of line with as many bytes as one may have, and with more.
func TestP16_1LongLines(t *testing.T) {
	pair := post(line("A", 5), line("B", -5))
	for _, x := range []struct {
		ahead  []string
		begins string
		behind []string
		events []api.Event
	}{
		{nil, ";", nil, nil},
		{nil, "  ;", nil, nil},
		{nil, "", nil, nil},
		{nil, "\t", nil, nil},
		{nil, lockLine, nil, []api.Event{locked}},
		{nil, headLine, []string{" A 5", " B"}, []api.Event{pair}},
		{[]string{headLine}, " A 5", []string{" B"}, []api.Event{pair}},
		{[]string{headLine, " A 5"}, "\tB", []string{lockLine}, []api.Event{pair, locked}},
		{[]string{headLine, " A 5"}, " ;", []string{" B"}, []api.Event{pair}},
		{[]string{headLine, " A 5", " B"}, "", []string{lockLine}, []api.Event{pair, locked}},
		{[]string{headLine, " A 5", " B"}, lockLine, nil, []api.Event{pair, locked}},
		{[]string{lockLine, ""}, headLine, []string{" A 5", " B -5"}, []api.Event{locked, pair}},
	} {
		for _, ended := range []bool{true, false} {
			text := func(size int) string {
				text := joined(slices.Concat(x.ahead, []string{filled(x.begins, size)}, x.behind)...)
				if !ended {
					text = strings.TrimSuffix(text, "\n")
				}
				return text
			}
			reads(t, text(api.MaxLine-1), 0, x.events...)
			reads(t, text(api.MaxLine), 0, x.events...)
			for _, size := range []int{api.MaxLine + 1, api.MaxLine + 2, 2 * api.MaxLine, 100000} {
				refuses(t, text(size), 0, len(x.ahead)+1, api.MaxLine, api.ErrLong)
			}
		}
	}
	// Whatever it is.
	for _, begins := range []string{"x", " x", "\r", " \r", "\"", " \"", ",", " A 5", "\tA", "post", headLine + " x", "close 2024-13-01 Assets"} {
		refuses(t, filled(begins, api.MaxLine), 0, 1, plainPlace(begins), api.ErrPaper)
		refuses(t, filled(begins, api.MaxLine+1), 0, 1, api.MaxLine, api.ErrLong)
		refuses(t, joined(lockLine, filled(begins, api.MaxLine+1)), 0, 2, api.MaxLine, api.ErrLong)
	}
	refuses(t, strings.Repeat("\t", api.MaxLine-1)+"x", 0, 1, api.MaxLine-1, api.ErrPaper)
	refuses(t, strings.Repeat("\t", api.MaxLine)+"x", 0, 1, api.MaxLine, api.ErrLong)
}

// TestP16_1LongLinesAtBadPostings: a long leg and a long remark stand within a posting, and are found ahead of its fault; a line that ends it is found behind that.
func TestP16_1LongLinesAtBadPostings(t *testing.T) {
	for _, bad := range [][]string{{headLine}, {headLine, " A 5"}, {headLine, " A", " B"}, {headLine, " A 5", " B -5", " C"}, {headLine, ";", " A 5", ";"}, append([]string{headLine}, slices.Repeat([]string{" A 1"}, 13)...)} {
		for _, within := range []string{";", " ;", " A 5", "\tB", " x", " ,"} {
			text := joined(append(slices.Clone(bad), filled(within, api.MaxLine+1))...)
			refuses(t, text, 0, len(bad)+1, api.MaxLine, api.ErrLong)
			refuses(t, joined(lockLine)+text+lockLine, 0, len(bad)+2, api.MaxLine, api.ErrLong)
		}
		for _, end := range []string{"", "\t", lockLine, headLine, "x", ",", "\r"} {
			text := joined(append(slices.Clone(bad), filled(end, api.MaxLine+1))...)
			refuses(t, text, 0, 1, 0, api.ErrPaper)
			refuses(t, joined(lockLine, "")+text, 0, 3, 0, api.ErrPaper)
		}
	}
}

func TestP16_1LongTexts(t *testing.T) {
	for _, row := range []string{";\n", "\n", " \n", ";;;;;;;\n", " \t;\n"} {
		text := strings.Repeat(row, api.MaxText/len(row))
		text += strings.Repeat(";", api.MaxText-len(text))
		reads(t, text, 2)
		refuses(t, text+";", 2, 0, 0, api.ErrLong)
		refuses(t, text+"\n", 2, 0, 0, api.ErrLong)
	}
	for _, begins := range []string{"x\n", " A\n", headLine + "\n", strings.Repeat(";", api.MaxLine+1) + "\n", ""} {
		text := begins + strings.Repeat("\n", api.MaxText-len(begins))
		asPlain(t, text, 2)
		refuses(t, text+"\n", 2, 0, 0, api.ErrLong)
		refuses(t, text+"x", 2, 0, 0, api.ErrLong)
		refuses(t, text+text, 2, 0, 0, api.ErrLong)
	}
	refuses(t, strings.Repeat("x", api.MaxText), 2, 1, api.MaxLine, api.ErrLong)
	refuses(t, strings.Repeat(" ", api.MaxText), 2, 1, api.MaxLine, api.ErrLong)
	refuses(t, strings.Repeat("x", api.MaxText+1), 2, 0, 0, api.ErrLong)
	events := slices.Repeat([]api.Event{locked}, api.MaxText/(len(lockLine)+1))
	reads(t, strings.Repeat(lockLine+"\n", len(events)), 2, events...)
}

// faulty: some lines, of which one is at fault: its number, the place in it, and the reason.
type faulty struct {
	lines    []string
	line, at int
	why      api.Errno
}

// faults: one of each that P16.1 names.
func faults() []faulty {
	long := func(s string) string { return filled(s, api.MaxLine+1) }
	return []faulty{
		{[]string{long(" ;")}, 1, api.MaxLine, api.ErrLong},
		{[]string{long("")}, 1, api.MaxLine, api.ErrLong},
		{[]string{long(lockLine)}, 1, api.MaxLine, api.ErrLong},
		{[]string{long(" A 5")}, 1, api.MaxLine, api.ErrLong},
		{[]string{headLine, ";", long(" A 5")}, 3, api.MaxLine, api.ErrLong},
		{[]string{"", "   A 5"}, 2, 3, api.ErrPaper},
		{[]string{headLine, " A 5", "\t a 5"}, 3, 2, api.ErrPaper},
		{[]string{"x"}, 1, 0, api.ErrPaper},
		{[]string{"close 2024-13-01 Assets"}, 1, 0, api.ErrPaper},
		{[]string{headLine, " A", " B", ""}, 1, 0, api.ErrPaper},
		{[]string{"", headLine, "; r", lockLine}, 2, 0, api.ErrPaper},
		{[]string{headLine, " A 1", " B -1", " C", "post 2024-02-01 x2 A 1, B -1"}, 1, 0, api.ErrPaper},
	}
}

// TestP16_1FirstFault: each fault ahead of each one, behind nothing and behind good lines.
func TestP16_1FirstFault(t *testing.T) {
	for _, ahead := range [][]string{nil, {lockLine, ""}, {headLine, " A 5", " B", "", ";", ""}, {";", "post 2024-02-01 x1 A 5, B -5", ""}} {
		for _, one := range faults() {
			text := joined(slices.Concat(ahead, one.lines)...)
			refuses(t, text, 2, len(ahead)+one.line, one.at, one.why)
			for _, two := range faults() {
				both := text + joined(two.lines...)
				refuses(t, both, 2, len(ahead)+one.line, one.at, one.why)
				refuses(t, both+strings.Repeat("\n", api.MaxText+1-len(both)), 2, 0, 0, api.ErrLong)
				refuses(t, both+strings.Repeat("\n", api.MaxText+1-len(both)), 7, 0, 0, api.ErrArg)
				refuses(t, both, -1, 0, 0, api.ErrArg)
			}
		}
	}
	// A leg that is at fault, and the posting that it would make one at fault: two open legs, none but it, too many.
	refuses(t, joined(headLine, " A", " B", " c"), 2, 4, 1, api.ErrPaper)
	refuses(t, joined(headLine, " c"), 2, 2, 1, api.ErrPaper)
	refuses(t, joined(append([]string{headLine}, append(slices.Repeat([]string{" A 1"}, 13), " A 0")...)...), 2, 15, 1, api.ErrPaper)
	// A posting at fault, and the line that ends it at fault too.
	for _, end := range []string{"x", "\r", headLine + " x", ",", filled("x", api.MaxLine+1)} {
		refuses(t, joined(headLine, " A 5", end), 2, 1, 0, api.ErrPaper)
		refuses(t, joined(headLine, " A 5", ";", end, " A 5"), 2, 1, 0, api.ErrPaper)
	}
	// Two heads, each without legs.
	refuses(t, joined("", headLine, headLine), 2, 2, 0, api.ErrPaper)
	refuses(t, joined("", headLine, " A 5", " B", headLine), 2, 5, 0, api.ErrPaper)
}
