package script

import (
	"fmt"
	"strconv"
	"strings"
	"testing"

	"daybook/api"
)

// someScripts: the story, and walks with the power failing and without.
func someScripts(n uint64, count int) []string {
	r := source(n)
	l := []string{text(story()...)}
	for i := range count {
		head := fmt.Sprintf("daybook %d %d 2", pick(r, 100000, 1000, 3000), pick(r, 64, 4096))
		l = append(l, newMaker(r, 2).script(head, 15+r.IntN(45), i%3 > 0))
	}
	return l
}

// pieces: a script's lines, each journal with its import and its end in one piece.
func pieces(in string) []string {
	var l []string
	for _, m := range modelLines(in) {
		if m.what == 'j' || m.what == 'e' {
			l[len(l)-1] += m.line + "\n"
		} else {
			l = append(l, m.line+"\n")
		}
	}
	return l
}

// isCommand tells whether a piece has an answer.
func isCommand(i int, piece string) bool { return i == 0 || piece != "\n" && piece[0] != '#' }

// unnumbered: the answers of a trace without their lines' numbers.
func unnumbered(trace string) []string {
	l := answersOf(trace)
	for i, a := range l {
		_, l[i], _ = strings.Cut(a, " ")
	}
	return l
}

func TestP19_3_ByItself(t *testing.T) {
	scripts := someScripts(31, 31)
	var alone []string
	for _, in := range scripts {
		alone = append(alone, traceOf(t, in))
	}
	for i, in := range scripts {
		same(t, "once more", traceOf(t, in), alone[i])
	}
	for range 3 {
		l, why := Many(scripts)
		same(t, "Many", why, api.OK)
		same(t, "the traces", l, alone)
	}
}

// TestP19_4_Beginning: a script cut behind each of its commands.
func TestP19_4_Beginning(t *testing.T) {
	for _, in := range someScripts(4, 25) {
		whole := answersOf(traceOf(t, in))
		cut, n := "", 0
		for i, piece := range pieces(in) {
			cut += piece
			if !isCommand(i, piece) {
				continue
			}
			n++
			if got, want := traceOf(t, cut), strings.Join(whole[:n], ""); got != want {
				t.Fatalf("%s%s", cut, firstUnlike(got, want))
			}
			same(t, "without the last byte 10", traceOf(t, strings.TrimSuffix(cut, "\n")), strings.Join(whole[:n], ""))
		}
		same(t, "how many", n, len(whole))
	}
}

// TestP19_5_Remarks: empty lines and remarks put in at every place, and all taken out.
func TestP19_5_Remarks(t *testing.T) {
	for k, in := range someScripts(5, 12) {
		whole := unnumbered(traceOf(t, in))
		l := pieces(in)
		bare, full := "", ""
		for i, piece := range l {
			for _, put := range []string{"\n", "#\n", "# len 5\n\n#import\n"} {
				if i == 0 || k > 4 && put == "#\n" {
					continue
				}
				changed := strings.Join(l[:i], "") + put + strings.Join(l[i:], "")
				same(t, "with a line put in", unnumbered(traceOf(t, changed)), whole)
			}
			if isCommand(i, piece) {
				bare += piece
			}
			full += piece + "#" + strings.Repeat("x", i%2000) + "\n\n"
		}
		same(t, "with none", unnumbered(traceOf(t, bare)), whole)
		same(t, "with many", unnumbered(traceOf(t, full)), whole)
		rightPlaces(t, bare)
		rightPlaces(t, full)
	}
}

// reads tells whether a command that asks goes to the disk.
func reads(ask string) bool {
	for _, begins := range []string{"event", "export", "sheet income", "sheet position"} {
		if strings.HasPrefix(ask, begins) {
			return true
		}
	}
	return false
}

// untold tells, of each place of a script, whether the disk has failed there and no answer has told it.
func untold(in string) []bool {
	var l []bool
	var x double
	commands, _ := modelParse(in)
	n := 0
	for i, piece := range pieces(in) {
		if isCommand(i, piece) {
			x.answer(commands[n])
			n++
		}
		is := x.ledger != nil && x.disk != nil && x.disk.Down()
		if is {
			_, why := x.ledger.Trial()
			is = why == api.OK
		}
		l = append(l, is)
	}
	return l
}

// TestP19_6_Asking: commands that only ask, put in at every place: no other answer changes.
func TestP19_6_Asking(t *testing.T) {
	asks := []string{"len", "event 1", "event 99", "trial", "rollup Assets", "rollup x", "daily Assets:Bank 2024-01-01 2024-12-31", "aged Assets:Cust:Ann 2024-02-01", "open Assets:Cust 2024-02-01", "accounts", "left i1", "query by account show sum(amount)", "query show", "export", "sheet trial", "sheet tree", "sheet income 2024-01-01 2024-12-31", "sheet position 2024-02-01", "sheet statement Assets:Cust:Ann 2024-03-01", "status", "free", "files"}
	failed := begun("submit open 2024-01-01 A asset", "fuse 1", "snapshot", "trial", "len", "crash", "reopen", "trial", "submit lock 2024-01-01", "len")
	failed = strings.Replace(failed, "100000", "60", 1)
	met := 0
	for _, in := range append(someScripts(6, 12), failed) {
		whole := unnumbered(traceOf(t, in))
		l, skip := pieces(in), untold(in)
		n := 0
		for i := range l {
			if isCommand(i, l[i]) {
				n++
			}
			for _, ask := range asks {
				changed := strings.Join(l[:i+1], "") + ask + "\n" + strings.Join(l[i+1:], "")
				if skip[i] && reads(ask) {
					met++
					continue
				}
				got := unnumbered(traceOf(t, changed))
				got = append(got[:n:n], got[n+1:]...)
				if strings.Join(got, "") != strings.Join(whole, "") {
					t.Fatalf("%s%s", changed, firstUnlike(strings.Join(got, ""), strings.Join(whole, "")))
				}
			}
		}
	}
	if met == 0 {
		t.Error("nowhere has the disk failed untold")
	}
	// There a command that reads makes the ledger down, up to the next crash or reopen.
	plays(t, strings.Replace(failed, "trial\nlen", "event 1\ntrial\nlen", 1), "1 ok 0", "2 ok 1", "3 ok", "4 error 30", "5 error 34", "6 error 34", "7 ok 1", "8 ok", "9 ok 1", "10 ok 0", "11 ok 2", "12 ok 2")
}

// rightPlaces: P19.7 and P19.8 of a script's trace, which it answers.
func rightPlaces(t *testing.T, in string) string {
	t.Helper()
	trace := traceOf(t, in)
	if !strings.HasSuffix(trace, "\n") {
		t.Fatalf("%s: the last line has no end", short(trace))
	}
	for i := range len(trace) {
		if trace[i] != 10 && (trace[i] < 32 || trace[i] > 126) {
			t.Fatalf("%s: a byte %d", short(trace), trace[i])
		}
	}
	var numbers []int
	for _, m := range modelLines(in) {
		if m.what == 'f' || m.what == 'c' {
			numbers = append(numbers, m.number)
		}
	}
	var got []int
	for line := range strings.Lines(trace) {
		if line[0] == ' ' {
			continue
		}
		word, rest, _ := strings.Cut(strings.TrimSuffix(line, "\n"), " ")
		n, err := strconv.Atoi(word)
		if err != nil || strconv.Itoa(n) != word || rest == "" {
			t.Fatalf("%q", line)
		}
		got = append(got, n)
	}
	same(t, "the numbers", got, numbers)
	return trace
}

// TestP19_7_Bytes and TestP19_8_Places go together: what stands in a trace, and the numbers of its lines.
func TestP19_7_Bytes(t *testing.T) {
	for _, in := range someScripts(7, 120) {
		rightPlaces(t, in)
	}
	// All that a text may hold, told back.
	var memo strings.Builder
	for b := 32; b <= 126; b++ {
		if b != '"' {
			memo.WriteByte(byte(b))
		}
	}
	all := memo.String()
	in := begun("submit open 2024-01-01 A asset", "submit open 2024-01-01 B asset", `submit post 2024-01-01 x "`+all[:80]+`" A 1, B -1`, `submit post 2024-01-01 y "`+all[20:]+`" A 1, B -1`, "query by memo show count", "event 3", "export", "left "+all[1:], "rollup \"", `query show min('"'), max('`+strings.ReplaceAll(all, "'", "''")+`')`)
	rightPlaces(t, in)
	playsAlike(t, in)
}

func TestP19_8_Places(t *testing.T) {
	for i := range 40 {
		// So many lines between two commands.
		between := strings.Repeat("\n", i) + strings.Repeat("# 1 ok\n", i/2)
		in := "daybook 1000 64 2\n" + between + "len\n" + between + "import\n" + strings.Repeat("len\n", i) + "end\n" + between + "files\nsheet trial" + strings.Repeat("\n", i%3)
		rightPlaces(t, in)
	}
	same(t, "the first line alone", rightPlaces(t, "daybook 1000 64 2"), "1 ok 0\n")
	most := "daybook 1000 64 2\n" + strings.Repeat("len\n", 1500)
	same(t, "as many as may be", len(answersOf(rightPlaces(t, most))), 1501)
}
