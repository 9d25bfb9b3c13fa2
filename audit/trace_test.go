package audit

import (
	"fmt"
	"slices"
	"strings"
	"testing"

	"daybook/api"
	"daybook/script"
)

// tells: the script and the trace of these lines must be told so, by the model too.
func tells(t *testing.T, in, trace []string, rule, line int) {
	t.Helper()
	checks(t, text(in...), text(trace...), rule, line, api.OK)
	checksAlike(t, text(in...), text(trace...))
}

// small: 20.5's script and its trace.
const (
	small      = "daybook 100000 4096 2\nsubmit open 2024-01-01 A asset\nlen\ntrial\n"
	smallTrace = "1 ok 0\n2 ok 1\n3 ok 1\n4 ok 0\n"
)

// TestP20_1_Scripts: a script with a fault, whatever the trace is.
func TestP20_1_Scripts(t *testing.T) {
	many := "daybook 1 64 2\n" + strings.Repeat("len\n", 1501)
	for _, in := range []string{
		"", "\n", "x", "daybook", "daybook 100 4096", "daybook  100 4096 2", "daybook 100 4096 2 ", "daybook 1 64 2 3", "daybook 1 064 2", "Daybook 1 64 2", " daybook 1 64 2", "# x\ndaybook 1 64 2\n", "\ndaybook 1 64 2\n",
		"daybook 1 64 0\nlenx", "daybook 1 64 0\nlen 5", "daybook 1 64 0\nlen ", "daybook 1 64 0\n len", "daybook 1 64 0\nrollup", "daybook 1 64 0\nfuse 007", "daybook 1 64 0\ndaily A 2024-01-01", "daybook 1 64 0\naged A 2024-02-30", "daybook 1 64 0\nimport\n", "daybook 1 64 0\nimport x\nend\n", "daybook 1 64 0\nend\n", "daybook 1 64 0\nsheet x",
		"daybook 1 64 0\nsubmit \x01", "daybook 1 64 0\n# \x7f", "daybook 1 64 0\n#\x80", "daybook 1 64 0\r\n", "daybook 1 64 0\ncrash" + strings.Repeat(" 1", 65), "daybook 1 64 0\nsubmit " + strings.Repeat("x", 1994), many, "daybook 1 64 0\n" + strings.Repeat("#\n", 199993),
	} {
		if _, err := script.Parse(in); err == nil {
			t.Fatalf("%s: no fault", short(in))
		}
		for _, trace := range []string{"", "1 ok 0\n", "1 error 1\n", smallTrace, "x", "1 error 1\n2 closed\n", "1 ok 0\n2 ok 0\n", "1 closed", "\x00\xff"} {
			checks(t, in, trace, 0, 0, api.ErrScript)
		}
	}
	// As many commands as there may be, and the longest text.
	in := strings.TrimSuffix(many, "len\n")
	trace := traceOf(t, in)
	checks(t, in, trace, 0, 0, api.OK)
	checks(t, in, trace+"1502 closed\n", 0, 0, api.ErrTrace)
	long := "daybook 1 64 0\nlen\n"
	long += strings.Repeat("#\n", (400000-len(long))/2)
	checks(t, long, traceOf(t, long), 0, 0, api.OK)
}

// TestP20_1_Traces: what is no trace of the script.
func TestP20_1_Traces(t *testing.T) {
	checks(t, small, smallTrace, 0, 0, api.OK)
	for _, trace := range []string{
		"", "\n", "x", " ", " \n", "1 ok 0\n", "1 ok 0\n2 ok 1\n3 ok 1\n", // too few
		smallTrace + "5 ok 0\n", smallTrace + "4 ok 0\n", smallTrace + "\n", smallTrace + "x", smallTrace + "x\n", smallTrace + " ", // too much
		"1 ok 0\n2 ok 1\n4 ok 0\n3 ok 1\n", "2 ok 1\n1 ok 0\n3 ok 1\n4 ok 0\n", // changed about
		"1 ok 0\n2 ok 1\n3 ok 1\n5 ok 0\n", "1 ok 0\n2 ok 1\n3 ok 1\n04 ok 0\n", "1 ok 0\n2 ok 1\n3 ok 1\n+4 ok 0\n", "1 ok 0\n2 ok 1\n3 ok 1\n40 ok 0\n", "1 ok 0\n2 ok 1\n3 ok 1\n-4 ok 0\n", "1 ok 0\n2 ok 1\n3 ok 1\n4.0 ok 0\n", "0 ok 0\n2 ok 1\n3 ok 1\n4 ok 0\n",
		"1 ok 0\n2 ok 1\n3 ok 1\n4\n", "1 ok 0\n2 ok 1\n3 ok 1\n4 \n", "1 ok 0\n2 ok 1\n3 ok 1\n4ok 0\n", "1 ok 0\n2 ok 1\n3 ok 1\n4  ok 0\n", "1 ok 0\n2 ok 1\n3 ok 1\n4\tok 0\n", "1 ok 0\n2 ok 1\n3 ok 1\n\t4 ok 0\n", "1 ok 0\n2 ok 1\n3 ok 1\n4 okay\n", "1 ok 0\n2 ok 1\n3 ok 1\n4 OK 0\n", "1 ok 0\n2 ok 1\n3 ok 1\n4 o\n", "1 ok 0\n2 ok 1\n3 ok 1\n4 fine\n", "1 ok 0\n2 ok 1\n3 ok 1\n4 ok\t0\n", "1 ok 0\n2 ok 1\n3 ok 1\n4 ok\r\n", "1 ok 0\n2 ok 1\n3 ok 1\n4 errors 1\n", "1 ok 0\n2 ok 1\n3 ok 1\n4 Closed\n", "1 ok 0\n2 ok 1\n3 ok 1\n4 okerror 1\n",
		"1 ok 0\n2 ok 1\n3 ok 1\n4 ok 0", "1 ok 0\n2 ok 1\n3 ok 1\n4 ok 0\n  A 0.00 0.00", "1 ok 0\r\n2 ok 1\r\n3 ok 1\r\n4 ok 0\r", // no byte 10 at the end
		"  x\n" + smallTrace, " " + smallTrace, "\n" + smallTrace, " |x\n" + smallTrace, // ahead of the first
		"1 ok 0\n2 ok 1\n\n3 ok 1\n4 ok 0\n", "1 ok 0\n2 ok 1\nx\n3 ok 1\n4 ok 0\n", "1 ok 0\n2 ok 1\n\t\n3 ok 1\n4 ok 0\n", // between
		strings.ReplaceAll(smallTrace, "\n", "\x0b"), strings.ReplaceAll(smallTrace, "\n", "\n\n"), strings.ReplaceAll(smallTrace, "\n", "\u2028"),
	} {
		checks(t, small, trace, 0, 0, api.ErrTrace)
		checksAlike(t, small, trace)
	}
	// These are traces: what is amiss in them is a rule's.
	for trace, want := range map[string][2]int{
		"1 ok 0\n2 ok 1\n3 ok 1\n4 ok 0\n \n":             {1, 4},
		"1 ok 0\n2 ok 1\n3 ok 1\n4 ok 0\n \x00\xff\r\t\n": {1, 4},
		"1 ok 0\n2 ok 1\n3 ok\n4 ok 0\n":                  {1, 3},
		"1 ok 0\n2 ok 1\n3 ok \n4 ok 0\n":                 {1, 3},
		"1 ok 0\n2 ok 1\n3 ok 1\r\n4 ok 0\n":              {1, 3},
		"1 ok 0\n2 ok 1\n3 ok \x00\n4 ok 0\n":             {1, 3},
		"1 ok 0\n2 ok 1\n3 ok  1\n4 ok 0\n":               {1, 3},
		"1 ok 0\n2 ok 1\n3 error\n4 ok 0\n":               {1, 3},
		"1 ok 0\n2 ok 1\n3 error \xff\n4 ok 0\n":          {1, 3},
		"1 ok 0\n2 ok 1\n3 closed \n4 ok 0\n":             {1, 3},
		"1 ok 0\n 1\n2 ok 1\n3 ok 1\n4 ok 0\n":            {1, 1},
		"1 ok 0\n2 ok 1\n 3 ok 1\n3 ok 1\n4 ok 0\n":       {1, 2},
		"1 ok\n2 ok\n3 ok\n4 ok\n":                        {1, 1},
	} {
		checks(t, small, trace, want[0], want[1], api.OK)
		checksAlike(t, small, trace)
	}
	checks(t, "", "", 0, 0, api.ErrScript)
	checks(t, "daybook 1 64 2", "1 error 30\n", 0, 0, api.OK)
	checks(t, "daybook 1 64 2", "", 0, 0, api.ErrTrace)
	checks(t, "daybook 1 64 2", "1 error 30", 0, 0, api.ErrTrace)
}

// TestP20_1_Lines: an answer is told by its first line in the trace, not by its command's line, nor by its place among the answers.
func TestP20_1_Lines(t *testing.T) {
	in := []string{"daybook 100000 4096 2", "# x", "submit open 2024-01-01 A asset", "submit open 2024-01-01 B asset", "", "submit post 2024-01-02 x A 1, B -1", "trial", "accounts", "export", "import", "lock 2024-01-02", "; len", "", "end", "len"}
	trace := []string{"1 ok 0", "3 ok 1", "4 ok 2", "6 ok 3", "7 ok 2", "  A 1.00 0.00", "  B 0.00 1.00", "8 ok 2", "  A 1 2024-01-01 open", "  B 1 2024-01-01 open", "9 ok 5", " |open 2024-01-01 A asset", " |open 2024-01-01 B asset", " |post 2024-01-02 x", " |  A   1.00", " |  B  -1.00", "10 ok 1", "15 ok 4"}
	if got := traceOf(t, text(in...)); got != text(trace...) {
		t.Fatalf("%s", got)
	}
	tells(t, in, trace, 0, 0)
	for at, row := range trace {
		if strings.HasPrefix(row, " ") {
			continue
		}
		number, _, _ := strings.Cut(row, " ")
		changed := slices.Clone(trace)
		changed[at] = number + " closed 1"
		tells(t, in, changed, 1, at+1)
	}
	changed := slices.Clone(trace)
	changed[17] = "15 ok 5"
	tells(t, in, changed, 3, 18)
	changed[6] = "  B 0.00 2.00" // the row is line 7, its answer begins in line 5
	tells(t, in, changed, 7, 5)
}

// TestP20_1_Anything: any two texts are answered; of traces that are pieced together of everything the answer is the model's.
func TestP20_1_Anything(t *testing.T) {
	r := source(4)
	pieces := []string{"1", "2", "3", " ", " ", "\n", "\n", "ok", "error", "closed", "0", "  ", " |", "-", "x", "\x00", "\xff", "\t", "ok 0\n", "2 ok 1\n", "1 ok 0\n", "1 ok 0\n2 ok 1\n", "3 ok 1\n", "4 ok 0\n", "9223372036854775808", "daybook 100000 4096 2\n", "len\n", "error 34", "\r"}
	for range 60000 {
		s := ""
		for range r.IntN(12) {
			s += pick(r, pieces...)
		}
		checksAlike(t, small, s)
		checksAlike(t, "daybook 100 64 2\n", s)
		checksAlike(t, s, smallTrace)
		cut := smallTrace[:r.IntN(len(smallTrace)+1)]
		checksAlike(t, small, cut+s+smallTrace[len(cut):])
	}
	for at := range smallTrace {
		for b := range 256 {
			checksAlike(t, small, smallTrace[:at]+string([]byte{byte(b)})+smallTrace[at+1:])
			checksAlike(t, small, smallTrace[:at]+string([]byte{byte(b)})+smallTrace[at:])
		}
		checksAlike(t, small, smallTrace[:at]+smallTrace[at+1:])
	}
}

// TestP20_1_Memory: nothing is kept from call to call, and calls at one time do not meet.
func TestP20_1_Memory(t *testing.T) {
	r := source(5)
	type pair struct {
		in, trace  string
		rule, line int
		why        api.Errno
	}
	var l []pair
	for range 40 {
		in, trace := right(t, r, 30)
		commands, _ := script.Parse(in)
		trace = spoilt(r, commands, trace, 2)
		rule, line, why := Check(in, trace)
		l = append(l, pair{in, trace, rule, line, why})
	}
	done := make(chan string)
	for n := range 4 {
		go func() {
			told := ""
			for i := range l {
				p := l[(i*7+n)%len(l)]
				if rule, line, why := Check(p.in, p.trace); rule != p.rule || line != p.line || why != p.why {
					told += fmt.Sprintf("%s%s%d, %d, %v, want %d, %d, %v\n", p.in, p.trace, rule, line, why, p.rule, p.line, p.why)
				}
			}
			done <- told
		}()
	}
	for range 4 {
		if s := <-done; s != "" {
			t.Error(s)
		}
	}
}
