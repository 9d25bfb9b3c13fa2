package script

import (
	"errors"
	"fmt"
	"math/rand/v2"
	"reflect"
	"regexp"
	"strconv"
	"strings"
	"testing"

	"daybook/api"
)

// source gives the same numbers in every run.
func source(n uint64) *rand.Rand { return rand.New(rand.NewPCG(19, n)) }

// text: lines, a byte 10 behind each.
func text(l ...string) string {
	if len(l) == 0 {
		return ""
	}
	return strings.Join(l, "\n") + "\n"
}

func same(t *testing.T, what string, got, want any) {
	t.Helper()
	if !reflect.DeepEqual(got, want) {
		t.Fatalf("%s:\n%v\nwant:\n%v", what, got, want)
	}
}

// short: a text as it stands, but no more of it than can be looked at.
func short(s string) string {
	if len(s) > 1500 {
		return fmt.Sprintf("%q.. (%d bytes)", s[:1500], len(s))
	}
	return strconv.Quote(s)
}

// traceOf: a script's trace; it must have no fault.
func traceOf(t *testing.T, in string) string {
	t.Helper()
	trace, err := Run(in)
	if err != nil {
		t.Fatalf("%s: %v", short(in), err)
	}
	return trace
}

// plays: a script's trace must be these lines.
func plays(t *testing.T, in string, want ...string) {
	t.Helper()
	if got := traceOf(t, in); got != text(want...) {
		t.Fatalf("%s:\n%swant:\n%s", in, got, text(want...))
	}
}

// faulty: a script must have this fault, for Parse and for Run.
func faulty(t *testing.T, in string, line, at int, why api.Errno) {
	t.Helper()
	want := api.Fault{Line: line, At: at, Why: why}
	commands, err := Parse(in)
	if got := faultIn(err); len(commands) != 0 || got != want {
		t.Fatalf("%s: Parse: %v, %+v, want %+v", short(in), commands, got, want)
	}
	trace, err := Run(in)
	if got := faultIn(err); trace != "" || got != want || !errors.Is(err, why) {
		t.Fatalf("%s: Run: %q, %+v, want %+v", short(in), trace, got, want)
	}
}

// faultIn: the fault that an error is just so; zero, if there is none.
func faultIn(err error) api.Fault {
	if f, is := err.(*api.Fault); is && f != nil {
		return *f
	}
	if err != nil {
		return api.Fault{Line: -1, At: -1}
	}
	return api.Fault{}
}

// begun: a first line and these behind it.
func begun(l ...string) string { return text(append([]string{"daybook 100000 4096 2"}, l...)...) }

// The sorts of words, as patterns.
const (
	patNumber = `(?:0|-?[1-9][0-9]{0,9})`
	patWord   = `[!-~]+`
	patDate   = `[0-9]{4}-[0-9]{2}-[0-9]{2}`
)

// patterns: of each command, by its first words, what may follow.
var patterns = map[string][]string{
	"submit": nil, "query": nil,
	"len": {}, "trial": {}, "accounts": {}, "export": {}, "import": {}, "snapshot": {}, "status": {}, "free": {}, "files": {}, "reopen": {},
	"event": {patNumber}, "trim": {patNumber}, "rebuild": {patNumber}, "fuse": {patNumber}, "lose": {patNumber},
	"rollup": {patWord}, "left": {patWord}, "daily": {patWord, patDate, patDate}, "aged": {patWord, patDate}, "open": {patWord, patDate},
	"turn":        {patNumber, patNumber, patNumber},
	"sheet trial": {}, "sheet tree": {}, "sheet income": {patDate, patDate}, "sheet position": {patDate}, "sheet statement": {patWord, patDate},
}

// isDate: by going through the days of a calendar.
func isDate(s string) bool {
	if !regexp.MustCompile(`^` + patDate + `$`).MatchString(s) {
		return false
	}
	year, _ := strconv.Atoi(s[:4])
	month, _ := strconv.Atoi(s[5:7])
	day, _ := strconv.Atoi(s[8:])
	days := []int{0, 31, 28, 31, 30, 31, 30, 31, 31, 30, 31, 30, 31}
	if year%4 == 0 && (year%100 != 0 || year%400 == 0) {
		days[2] = 29
	}
	return year >= 1 && month >= 1 && month <= 12 && day >= 1 && day <= days[month]
}

// fitsPattern: whether a word is of a sort; of a date also whether it is a day's.
func fitsPattern(word, pattern string) bool {
	if pattern == patDate {
		return isDate(word)
	}
	return regexp.MustCompile(`^` + pattern + `$`).MatchString(word)
}

// formFault: the place at which a line is at fault, -1 if it is not: the line is cut at each of its blanks, so that a missing word is an empty one.
func formFault(line string, first bool) int {
	words := strings.Split(line, " ")
	places := []int{0}
	for _, w := range words {
		places = append(places, places[len(places)-1]+len(w)+1)
	}
	wants, used := []string{patNumber, patNumber, patNumber}, 1
	if first {
		if words[0] != "daybook" {
			return 0
		}
	} else {
		if words[0] == "crash" {
			for i := 1; i < len(words); i++ {
				if i > 64 || !fitsPattern(words[i], patNumber) {
					return places[i]
				}
			}
			return -1
		}
		name := words[0]
		if name == "sheet" {
			if len(words) < 2 {
				return places[1]
			}
			name, used = name+" "+words[1], 2
		}
		var is bool
		if wants, is = patterns[name]; !is {
			return places[used-1]
		}
		if name == "submit" || name == "query" {
			return -1
		}
	}
	for _, pattern := range wants {
		if used >= len(words) || words[used] == "" || !fitsPattern(words[used], pattern) {
			return places[used]
		}
		used++
	}
	if used < len(words) {
		return places[used]
	}
	return -1
}

// modelLine: a line with what it is.
type modelLine struct {
	number int
	line   string
	what   byte // 'f' the first one, 'c' a command, 'j' a journal's, 'e' its end, 0 passed over
}

// modelLines: a text's lines.
func modelLines(in string) []modelLine {
	var l []modelLine
	journal := false
	for i := 1; in != ""; i++ {
		line, rest, _ := strings.Cut(in, "\n")
		in = rest
		m := modelLine{number: i, line: line}
		switch {
		case i == 1:
			m.what = 'f'
		case journal && line == "end":
			m.what, journal = 'e', false
		case journal:
			m.what = 'j'
		case line != "" && line[0] != '#':
			m.what = 'c'
			journal = line == "import"
		}
		l = append(l, m)
	}
	return l
}

// modelParse: what Parse answers, by the promise's words, one look at the whole text for each of its points.
func modelParse(in string) ([]api.Command, api.Fault) {
	if len(in) > 400000 {
		return nil, api.Fault{Why: api.ErrLong}
	}
	lines := modelLines(in)
	for _, m := range lines {
		if at := strings.IndexFunc(m.line, func(r rune) bool { return r < 32 || r > 126 }); at >= 0 {
			return nil, api.Fault{Line: m.number, At: at, Why: api.ErrScript}
		}
	}
	for _, m := range lines {
		if len(m.line) > 2000 {
			return nil, api.Fault{Line: m.number, Why: api.ErrLong}
		}
	}
	n := 0
	for _, m := range lines {
		if m.what == 'c' {
			n++
		}
		if n > 1500 {
			return nil, api.Fault{Line: m.number, Why: api.ErrMany}
		}
	}
	if len(lines) == 0 {
		return nil, api.Fault{Line: 1, Why: api.ErrScript}
	}
	return modelCommands(lines)
}

func modelCommands(lines []modelLine) ([]api.Command, api.Fault) {
	ends := 0
	for _, m := range lines {
		if m.what == 'e' {
			ends = m.number
		}
	}
	var l []api.Command
	for _, m := range lines {
		switch m.what {
		case 'j':
			l[len(l)-1].Text += m.line + "\n"
		case 'f', 'c':
			if at := formFault(m.line, m.what == 'f'); at >= 0 {
				return nil, api.Fault{Line: m.number, At: at, Why: api.ErrScript}
			}
			if m.what == 'c' && m.line == "import" && ends < m.number {
				return nil, api.Fault{Line: m.number, Why: api.ErrScript}
			}
			words := strings.Split(m.line, " ")
			c := api.Command{Line: m.number, Word: words[0], Args: words[1:]}
			if c.Word == "submit" || c.Word == "query" {
				c.Args, c.Text = nil, strings.Join(words[1:], " ")
			}
			l = append(l, c)
		}
	}
	return l, api.Fault{}
}

// parsesAlike: Parse of a text must be the model's.
func parsesAlike(t *testing.T, in string) {
	t.Helper()
	commands, err := Parse(in)
	want, fault := modelParse(in)
	if faultIn(err) != fault || len(commands) != len(want) {
		t.Fatalf("%s: %+v, %d commands, want %+v, %d", short(in), faultIn(err), len(commands), fault, len(want))
	}
	for i, c := range commands {
		w := want[i]
		if c.Line != w.Line || c.Word != w.Word || c.Text != w.Text || strings.Join(c.Args, "\n") != strings.Join(w.Args, "\n") || len(c.Args) != len(w.Args) {
			t.Fatalf("%s: %+v, want %+v", short(in), c, w)
		}
	}
}
