package script

import (
	"slices"
	"strings"
	"testing"

	"daybook/api"
)

const start = "daybook 1 64 0\n"

// TestP19_1_Forms: of each command a good line, and the places of the faults in lines that are not good.
func TestP19_1_Forms(t *testing.T) {
	for _, x := range []struct {
		line string
		at   int // -1: good
	}{
		{"len", -1}, {"len ", 4}, {"len  ", 4}, {"len 5", 4}, {" len", 0}, {"lenx", 0}, {"LEN", 0}, {"le", 0}, {"len#", 0}, {"len # x", 4},
		{"trial", -1}, {"trial 1", 6}, {"accounts", -1}, {"accounts x", 9}, {"export", -1}, {"export ", 7}, {"snapshot", -1}, {"snapshot now", 9},
		{"status", -1}, {"status 0", 7}, {"free", -1}, {"free 1", 5}, {"files", -1}, {"files *", 6}, {"reopen", -1}, {"reopen 1", 7},
		{"event 1", -1}, {"event", 6}, {"event ", 6}, {"event  1", 6}, {"event x", 6}, {"event 1 ", 8}, {"event 1 2", 8}, {"event 1  2", 8},
		{"trim 0", -1}, {"trim", 5}, {"trim +1", 5}, {"trim 1 1", 7}, {"rebuild -1", -1}, {"rebuild", 8}, {"rebuild 1.5", 8}, {"rebuild 1 x", 10},
		{"fuse 9", -1}, {"fuse", 5}, {"fuse 007", 5}, {"fuse 9 9", 7}, {"lose 0", -1}, {"lose", 5}, {"lose a", 5}, {"lose 0 0", 7},
		{"turn 0 1 2", -1}, {"turn", 5}, {"turn 0", 7}, {"turn 0 ", 7}, {"turn 0 1", 9}, {"turn 0 1 x", 9}, {"turn 0 x 2", 7}, {"turn x 1 2", 5}, {"turn 0 1 2 3", 11}, {"turn 0 1 2 ", 11}, {"turn 0  1 2", 7},
		{"rollup A", -1}, {"rollup", 7}, {"rollup  A", 7}, {"rollup A ", 9}, {"rollup A B", 9}, {"rollup !~", -1},
		{"left i1", -1}, {"left", 5}, {"left a b", 7}, {"left \"", -1},
		{"daily A 2024-01-01 2024-01-02", -1}, {"daily A 2024-01-02 2024-01-01", -1}, {"daily", 6}, {"daily A", 8}, {"daily A 2024-01-01", 19}, {"daily A 2024-01-01 ", 19}, {"daily A x 2024-01-01", 8}, {"daily A 2024-01-01 x", 19}, {"daily A 2024-01-01 2024-01-02 3", 30}, {"daily A 2024-01-01  2024-01-02", 19},
		{"aged A 2024-01-01", -1}, {"aged", 5}, {"aged A", 7}, {"aged A 2023-02-29", 7}, {"aged A 2024-02-29", -1}, {"aged A 2024-02-29 2", 18},
		{"open A 2024-01-01", -1}, {"open", 5}, {"open A", 7}, {"open A 2024-13-01", 7}, {"open A 2024-01-01 ", 18},
		{"submit", -1}, {"submit ", -1}, {"submit   ", -1}, {"submit x", -1}, {"submitx", 0}, {"query", -1}, {"query ", -1}, {"query    ", -1}, {"query#", 0}, {"query show count", -1},
		{"sheet", 6}, {"sheet ", 6}, {"sheet x", 6}, {"sheet  trial", 6}, {"sheet trial", -1}, {"sheet trial ", 12}, {"sheet trial x", 12}, {"sheet tree", -1}, {"sheet tree 1", 11}, {"sheet sheet", 6}, {"sheettrial", 0},
		{"sheet income 2024-01-01 2024-01-02", -1}, {"sheet income", 13}, {"sheet income 2024-01-01", 24}, {"sheet income x", 13}, {"sheet income 2024-01-01 x", 24}, {"sheet income 2024-01-01 2024-01-02 3", 35},
		{"sheet position 2024-01-01", -1}, {"sheet position", 15}, {"sheet position A", 15}, {"sheet position 2024-01-01 2024-01-01", 26},
		{"sheet statement A 2024-01-01", -1}, {"sheet statement", 16}, {"sheet statement A", 18}, {"sheet statement A B", 18}, {"sheet statement A 2024-01-01 ", 29},
		{"crash", -1}, {"crash ", 6}, {"crash x", 6}, {"crash  1", 6}, {"crash 1", -1}, {"crash 1 ", 8}, {"crash 1 x", 8}, {"crash 1 -2 0", -1}, {"crash 1  2", 8},
		{"import x", 7}, {"import ", 7}, {" import", 0}, {"imports", 0}, {"end", 0}, {"end ", 0}, {" end", 0}, {"daybook 1 64 0", 0}, {"daybook", 0},
		{" ", 0}, {"  ", 0}, {" #", 0}, {"#", -1}, {"", -1}, {"# len", -1}, {"#len 5", -1}, {"!", 0}, {"~", 0}, {"sheet trial#", 6}, {"0", 0},
	} {
		if x.at >= 0 {
			faulty(t, start+x.line, 2, x.at, api.ErrScript)
			faulty(t, start+"\n# x\nlen\n"+x.line+"\nxx\n", 5, x.at, api.ErrScript)
		} else if _, err := Parse(start + x.line); err != nil {
			t.Fatalf("%q: %v", x.line, err)
		}
		parsesAlike(t, start+x.line)
		parsesAlike(t, start+x.line+"\n")
	}
}

// TestP19_1_OneMore: a word too many behind each command, and each command cut off at every place.
func TestP19_1_OneMore(t *testing.T) {
	for _, line := range []string{"len", "event 1", "trial", "rollup A", "daily A 2024-01-01 2024-01-02", "aged A 2024-01-01", "open A 2024-01-01", "accounts", "left i", "export", "import", "sheet trial", "sheet tree", "sheet income 2024-01-01 2024-01-02", "sheet position 2024-01-01", "sheet statement A 2024-01-01", "snapshot", "trim 1", "rebuild 1", "status", "fuse 1", "free", "files", "reopen", "lose 1", "turn 1 2 3"} {
		for _, more := range []string{"1", "x", "2024-01-01", "#", "-", "trial", "1 2", ""} {
			faulty(t, start+line+" "+more+"\nend\n", 2, len(line)+1, api.ErrScript)
			faulty(t, start+line+" "+more, 2, len(line)+1, api.ErrScript)
		}
		words := strings.Split(line, " ")
		for i := 1; i < len(words); i++ {
			ahead := strings.Join(words[:i], " ")
			faulty(t, start+ahead, 2, len(ahead)+1, api.ErrScript)
		}
		for i := range len(line) {
			parsesAlike(t, start+line[:i]+"\nend\n")
		}
	}
}

func TestP19_1_FirstLine(t *testing.T) {
	for _, x := range []struct {
		in string
		at int
	}{
		{"", 0}, {"\n", 0}, {"\ndaybook 1 64 0\n", 0}, {"#\ndaybook 1 64 0\n", 0}, {" ", 0}, {"len", 0}, {"import", 0}, {"import\nend", 0}, {"end", 0}, {"daybookx 1 64 0", 0}, {" daybook 1 64 0", 0}, {"Daybook 1 64 0", 0},
		{"daybook", 8}, {"daybook ", 8}, {"daybook  1 64 0", 8}, {"daybook x", 8}, {"daybook 1", 10}, {"daybook 1 ", 10}, {"daybook 1 x 0", 10}, {"daybook 1 64", 13}, {"daybook 1 64 ", 13}, {"daybook 1 64 x", 13}, {"daybook 1 64 00", 13},
		{"daybook 1 64 0 ", 15}, {"daybook 1 64 0 0", 15}, {"daybook 1 64 0 #", 15}, {"daybook 1 64  0", 13}, {"daybook 100 4096", 17}, {"daybook  100 4096 2", 8}, {"daybook 1 64 0\r", 14},
	} {
		faulty(t, x.in, 1, x.at, api.ErrScript)
		faulty(t, x.in+"\n", 1, x.at, api.ErrScript)
		faulty(t, x.in+"\nxx\n", 1, x.at, api.ErrScript)
		parsesAlike(t, x.in)
	}
	for _, in := range []string{"daybook 1 64 0", "daybook 1 64 0\n", "daybook -9999999999 9999999999 -1", "daybook 0 0 0\n\n\n#"} {
		if c, err := Parse(in); err != nil || len(c) != 1 || c[0].Word != "daybook" || c[0].Line != 1 || len(c[0].Args) != 3 || c[0].Text != "" {
			t.Fatalf("%q: %v, %v", in, c, err)
		}
	}
}

func TestP19_1_Numbers(t *testing.T) {
	for _, x := range []struct {
		word string
		is   bool
	}{
		{"0", true}, {"-0", false}, {"00", false}, {"007", false}, {"-", false}, {"+1", false}, {"--1", false}, {"1-", false}, {"1", true}, {"-1", true}, {"9", true}, {"10", true}, {"-10", true}, {"-01", false}, {"01", false},
		{"1234567890", true}, {"-1234567890", true}, {"9999999999", true}, {"-9999999999", true}, {"10000000000", false}, {"-10000000000", false}, {"12345678901", false}, {"99999999999999999999999999", false},
		{"1a", false}, {"a1", false}, {"0x1", false}, {"1.0", false}, {"1,0", false}, {"1_0", false}, {"1e1", false}, {"/", false}, {":", false}, {"1/", false}, {"1:", false}, {"-a", false}, {"0-", false}, {"0 ", false},
	} {
		for _, before := range []string{"fuse ", "turn 1 2 ", "crash 5 "} {
			if x.is {
				if _, err := Parse(start + before + x.word); err != nil {
					t.Errorf("%q: %v", x.word, err)
				}
			} else if x.word != "0 " {
				faulty(t, start+before+x.word, 2, len(before), api.ErrScript)
			}
			parsesAlike(t, start+before+x.word)
		}
		parsesAlike(t, "daybook 1 "+x.word+" 0")
		parsesAlike(t, "daybook "+x.word+" 1 0")
		parsesAlike(t, "daybook 1 1 "+x.word)
	}
	plays(t, "daybook 9999999999 64 0\nfree", "1 error 1", "2 closed")
	plays(t, begun("event 9999999999", "event -9999999999", "trim -9999999999", "rebuild -9999999999", "fuse 9999999999", "lose 9999999999", "lose -9999999999", "crash 9999999999 -9999999999", "len"),
		"1 ok 0", "2 error 41", "3 error 41", "4 error 1", "5 error 1", "6 error 1", "7 error 31", "8 error 31", "9 ok", "10 closed")
}

func TestP19_1_Dates(t *testing.T) {
	for _, x := range []string{"2024-00-01", "2024-01-00", "2024-01-32", "2024-13-01", "2023-02-29", "1900-02-29", "2024-04-31", "0000-01-01", "10000-01-01", "2024-1-1", "24-01-01", "2024/01/01", "20240101", "2024-01-01x", "x2024-01-01", "-024-01-01", "+024-01-01", "2024-01-1a", "0", "today"} {
		faulty(t, start+"aged A "+x, 2, 7, api.ErrScript)
		faulty(t, start+"daily A "+x+" 2024-01-01", 2, 8, api.ErrScript)
		faulty(t, start+"daily A 2024-01-01 "+x, 2, 19, api.ErrScript)
		faulty(t, start+"sheet position "+x, 2, 15, api.ErrScript)
	}
	for _, x := range []string{"0001-01-01", "9999-12-31", "2000-02-29", "2024-02-29", "2024-12-31"} {
		if _, err := Parse(start + "daily A " + x + " " + x); err != nil {
			t.Errorf("%q: %v", x, err)
		}
	}
}

// TestP19_1_Crash: none, 64 and 65 numbers.
func TestP19_1_Crash(t *testing.T) {
	for n := range 70 {
		line := "crash" + strings.Repeat(" 12", n)
		if n > 64 {
			faulty(t, start+line, 2, 6+64*3, api.ErrScript)
			faulty(t, start+line+" ", 2, 6+64*3, api.ErrScript)
			continue
		}
		c, err := Parse(start + line)
		if err != nil || len(c) != 2 || len(c[1].Args) != n || slices.ContainsFunc(c[1].Args, func(s string) bool { return s != "12" }) {
			t.Fatalf("%d: %v %v", n, c, err)
		}
		faulty(t, start+line+" ", 2, 6+n*3, api.ErrScript)
		faulty(t, start+line+" x", 2, 6+n*3, api.ErrScript)
		faulty(t, start+line+"  1", 2, 6+n*3, api.ErrScript)
		parsesAlike(t, start+line)
	}
}

// TestP19_1_Bytes: every byte but 10, at every place of a text, but where it makes another fault's line.
func TestP19_1_Bytes(t *testing.T) {
	whole := "daybook 1 64 0\n#ab\nsubmit ab\nimport\nab\nend\nquery"
	for b := range 256 {
		if b == 10 || b >= 32 && b <= 126 {
			continue
		}
		line, at := 1, 0
		for i := range len(whole) + 1 {
			faulty(t, whole[:i]+string([]byte{byte(b)})+whole[i:], line, at, api.ErrScript)
			at++
			if i < len(whole) && whole[i] == '\n' {
				line, at = line+1, 0
			}
		}
	}
	for b := 32; b <= 126; b++ {
		in := start + "#" + string(rune(b)) + "\nsubmit " + string(rune(b)) + "\nquery " + string(rune(b)) + "\nrollup !\nimport\n" + string(rune(b)) + "\nend\n"
		c, err := Parse(in)
		if err != nil || len(c) != 5 || c[1].Text != string(rune(b)) || c[2].Text != string(rune(b)) || c[4].Text != string(rune(b))+"\n" {
			t.Fatalf("%d: %v %v", b, c, err)
		}
		if b > 32 {
			c, err = Parse(start + "left " + string(rune(b)))
			if err != nil || c[1].Args[0] != string(rune(b)) {
				t.Fatalf("%d: %v %v", b, c, err)
			}
		}
	}
}

// TestP19_1_Limits: a text's bytes, a line's, the commands: as many as may be, and one more.
func TestP19_1_Limits(t *testing.T) {
	pad := func(n int) string {
		var b strings.Builder
		b.WriteString(start)
		for b.Len() < n {
			b.WriteString(strings.Repeat("#", min(1999, n-b.Len()-1)) + "\n")
		}
		return b.String()
	}
	whole := pad(api.MaxText)
	if len(whole) != 400000 {
		t.Fatal(len(whole))
	}
	plays(t, whole, "1 error 30")
	faulty(t, whole+"\n", 0, 0, api.ErrLong)
	faulty(t, whole+"#", 0, 0, api.ErrLong)
	faulty(t, strings.Repeat("\x00", 400001), 0, 0, api.ErrLong)
	faulty(t, strings.Repeat("\n", 400001), 0, 0, api.ErrLong)
	faulty(t, strings.Repeat("\n", 400000), 1, 0, api.ErrScript)
	plays(t, start+strings.Repeat("\n", 400000-len(start)), "1 error 30")

	for n := 1998; n <= 2002; n++ {
		for _, x := range []struct{ before, behind string }{
			{"#", ""}, {"submit ", ""}, {"query ", ""}, {"rollup ", ""}, {"import\n", "\nend"}, {"import\n;", "\n\nend\nlen"}, {"", ""}, {"len\nsubmit ", "\nlen"},
		} {
			line := 1 + strings.Count(x.before, "\n")
			here := x.before[strings.LastIndex(x.before, "\n")+1:]
			in := start + x.before + strings.Repeat("x", n-len(here)) + x.behind
			switch {
			case n > 2000:
				faulty(t, in, 1+line, 0, api.ErrLong)
			case x.before == "":
				faulty(t, in, 2, 0, api.ErrScript)
			default:
				if _, err := Parse(in); err != nil {
					t.Fatalf("%d %q: %v", n, x.before, err)
				}
			}
			parsesAlike(t, in)
		}
	}
	faulty(t, strings.Repeat("d", 2001)+"\n", 1, 0, api.ErrLong)

	for n := 1499; n <= 1502; n++ {
		for _, many := range []string{"len\n", "\n# x\nlen\n", "import\nlen\nlen\nend\n", "crash 1\n", "submit\n", " \n", "xx\n", "end\n"} {
			in := start + strings.Repeat(many, n)
			lines := strings.Count(many, "\n")
			switch {
			case n > 1500:
				first := 2 + 1500*lines
				if strings.HasPrefix(many, "\n") {
					first += 2
				}
				faulty(t, in, first, 0, api.ErrMany)
			case many == " \n" || many == "xx\n" || many == "end\n":
				faulty(t, in, 2, 0, api.ErrScript)
			default:
				if c, err := Parse(in); err != nil || len(c) != n+1 {
					t.Fatalf("%d %q: %d %v", n, many, len(c), err)
				}
			}
			parsesAlike(t, in)
		}
	}
	// The first line is no command, and begins no journal, whatever it is.
	for _, head := range []string{"import\n", "\n", "#\n", "len\n", "daybook\n"} {
		faulty(t, head+strings.Repeat("len\n", 1501), 1502, 0, api.ErrMany)
		parsesAlike(t, head+strings.Repeat("len\n", 1500))
	}
	faulty(t, "import\n"+strings.Repeat("len\n", 1500), 1, 0, api.ErrScript)
	faulty(t, "daybook\n"+strings.Repeat("len\n", 1500), 1, 8, api.ErrScript)
	// An import without an end is one command, whatever stands behind it; lines passed over and a journal's are none.
	faulty(t, start+"import\n"+strings.Repeat("len\n", 5000), 2, 0, api.ErrScript)
	if c, err := Parse(start + "import\n" + strings.Repeat("len\n", 5000) + "end\n" + strings.Repeat("len\n", 1499) + strings.Repeat("#\n\n", 4000)); err != nil || len(c) != 1501 {
		t.Fatal(len(c), err)
	}
}

// TestP19_1_Order: of two faults in one text, whichever stands ahead, that which the promise names first counts; of two of one kind the one nearer to the top.
func TestP19_1_Order(t *testing.T) {
	kinds := []struct {
		lines string
		line  int // within the lines
		at    int
		why   api.Errno
	}{
		{"#\x7f\n", 0, 1, api.ErrScript},
		{"#" + strings.Repeat("x", 2000) + "\n", 0, 0, api.ErrLong},
		{strings.Repeat("len\n", 1501), 1500, 0, api.ErrMany},
		{"len 5\n", 0, 4, api.ErrScript},
	}
	for i, a := range kinds {
		for j, b := range kinds {
			for _, between := range []string{"", "\n", "# x\n"} {
				in := start + a.lines + between + b.lines
				lead, ahead := a, 2
				if j < i {
					lead, ahead = b, 2+strings.Count(a.lines+between, "\n")
				}
				line := ahead + lead.line
				if lead.why == api.ErrMany && j < i { // the commands ahead count too
					line -= strings.Count(a.lines, "len")
				}
				faulty(t, in, line, lead.at, lead.why)
				parsesAlike(t, in)
				big := in + strings.Repeat("\n", 400001)
				faulty(t, big, 0, 0, api.ErrLong)
			}
		}
	}
	// The first line is looked at ahead of all others' forms, and behind all else.
	for _, a := range kinds[:3] {
		faulty(t, "daybook\n"+a.lines, 2+a.line, a.at, a.why)
	}
	faulty(t, "daybook 1\nlen 5\n", 1, 10, api.ErrScript)
	faulty(t, start+"len 5\nrollup\nimport\n", 2, 4, api.ErrScript)
	faulty(t, start+"len\nrollup\nlen 5\nimport\n", 3, 7, api.ErrScript)
	faulty(t, start+"import\nlen 5\n", 2, 0, api.ErrScript)
	faulty(t, start+"#\x1f\x7f\n\x00", 2, 1, api.ErrScript)
}

// TestP19_1_Journals: where a journal begins and ends, and what may stand in it.
func TestP19_1_Journals(t *testing.T) {
	for _, x := range []struct {
		lines []string
		texts []string
	}{
		{[]string{"import", "end"}, []string{""}},
		{[]string{"import", "", "end"}, []string{"\n"}},
		{[]string{"import", "# x", "", "end"}, []string{"# x\n\n"}},
		{[]string{"import", "len 5", "lenx", " end", "end ", "end end", "END", "import", "daybook", "import x", "   ", "end"}, []string{"len 5\nlenx\n end\nend \nend end\nEND\nimport\ndaybook\nimport x\n   \n"}},
		{[]string{"import", "a", "end", "import", "b", "end", "# import", "", "import", "end"}, []string{"a\n", "b\n", ""}},
	} {
		c, err := Parse(text(append([]string{"daybook 1 64 0"}, x.lines...)...))
		if err != nil || len(c) != 1+len(x.texts) {
			t.Fatalf("%q: %v %v", x.lines, c, err)
		}
		for i, want := range x.texts {
			if c[1+i].Word != "import" || len(c[1+i].Args) != 0 || c[1+i].Text != want {
				t.Errorf("%q: %+v", x.lines, c[1+i])
			}
		}
		parsesAlike(t, start+strings.Join(x.lines, "\n"))
	}
	faulty(t, start+"import", 2, 0, api.ErrScript)
	faulty(t, start+"import\n", 2, 0, api.ErrScript)
	faulty(t, start+"import\nend \n end\n#end\n", 2, 0, api.ErrScript)
	faulty(t, start+"import\nend\nend\n", 4, 0, api.ErrScript)
	faulty(t, start+"import\nend\nimport\n", 4, 0, api.ErrScript)
	faulty(t, start+"#import\nend\n", 3, 0, api.ErrScript)
	faulty(t, start+"import \nend\n", 2, 7, api.ErrScript)
	faulty(t, start+"end\n", 2, 0, api.ErrScript)
}

// TestP19_1_Commands: what Parse tells of each.
func TestP19_1_Commands(t *testing.T) {
	in := text("daybook 1 64 0", "", "# x", "submit  a b ", "submit", "submit ", "query show count", "query  ", "len", "event -5", "daily A:B 2024-01-01 2024-01-02", "crash 1 2 3", "import", " x", "", "end", "sheet statement ! 2024-01-01", "turn 0 1 -255", "left #")
	c, err := Parse(in)
	if err != nil {
		t.Fatal(err)
	}
	want := []api.Command{
		{Line: 1, Word: "daybook", Args: []string{"1", "64", "0"}},
		{Line: 4, Word: "submit", Text: " a b "},
		{Line: 5, Word: "submit"},
		{Line: 6, Word: "submit"},
		{Line: 7, Word: "query", Text: "show count"},
		{Line: 8, Word: "query", Text: " "},
		{Line: 9, Word: "len"},
		{Line: 10, Word: "event", Args: []string{"-5"}},
		{Line: 11, Word: "daily", Args: []string{"A:B", "2024-01-01", "2024-01-02"}},
		{Line: 12, Word: "crash", Args: []string{"1", "2", "3"}},
		{Line: 13, Word: "import", Text: " x\n\n"},
		{Line: 17, Word: "sheet", Args: []string{"statement", "!", "2024-01-01"}},
		{Line: 18, Word: "turn", Args: []string{"0", "1", "-255"}},
		{Line: 19, Word: "left", Args: []string{"#"}},
	}
	for i := range c {
		if len(c[i].Args) == 0 {
			c[i].Args = nil
		}
	}
	same(t, "the commands", c, want)
	parsesAlike(t, in)
	parsesAlike(t, strings.TrimSuffix(in, "\n"))
}

// TestP19_1_Anything: texts of the pieces of scripts, thrown together.
func TestP19_1_Anything(t *testing.T) {
	r := source(1)
	pieces := []string{"len", "event", "1", "-1", "0", "007", " ", " ", " ", " ", "\n", "\n", "\n", "\n", "import", "\nimport\n", "\nend\n", "end", "#", "crash", "sheet", "trial", "income", "2024-01-01", "2023-02-29", "A:B", "submit", "query", "turn", "daily", "rollup", "daybook", "reopen", "\nlen\n", "\n# x\n", "\nturn 0 1 2\n"}
	for range 30000 {
		var b strings.Builder
		if r.IntN(8) > 0 {
			b.WriteString("daybook 1 64 0\n")
		}
		for range r.IntN(14) {
			b.WriteString(pieces[r.IntN(len(pieces))])
		}
		in := b.String()
		if r.IntN(30) == 0 && in != "" {
			i := r.IntN(len(in))
			in = in[:i] + string([]byte{byte(r.IntN(256))}) + in[i:]
		}
		parsesAlike(t, in)
	}
}
