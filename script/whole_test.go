package script

import (
	"fmt"
	"math/big"
	"slices"
	"strings"
	"testing"

	"daybook/grammar"
)

// roomy: a script of a walk on a disk with room and power enough.
func roomy(n uint64, pieces int) string {
	r := source(n)
	return newMaker(r, 2).script("daybook 1048576 4096 2", pieces, false)
}

// cents: an amount's text of two digits behind the point, in smallest units.
func cents(t *testing.T, s string) *big.Int {
	t.Helper()
	n, is := new(big.Int).SetString(strings.Replace(s, ".", "", 1), 10)
	if !is {
		t.Fatalf("%q is no amount", s)
	}
	return n
}

// rowsIn: the words of an answer's rows.
func rowsIn(a string) [][]string {
	var l [][]string
	for line := range strings.Lines(a) {
		if strings.HasPrefix(line, "  ") {
			l = append(l, strings.Fields(line))
		}
	}
	return l
}

// asksAll: every question that hangs on the list of events, of the walks' accounts.
func asksAll() []string {
	l := []string{"len", "trial", "accounts", "export", "sheet trial", "sheet tree", "sheet income 2024-01-01 2024-12-31", "sheet position 2024-02-15", "query by account show sum(amount), count", "query by day, kind show sum(debit), min(key)", "query show count, sum(amount)", "query where account under 'Assets' show sum(amount)"}
	for _, name := range []string{"Assets", bank, cust, ann, "Income", work, "Costs", "Debt", "Own", "Other"} {
		l = append(l, "rollup "+name, "daily "+name+" 0001-01-01 9999-12-31", "aged "+name+" 2024-02-20", "open "+name+" 2024-03-20", "sheet statement "+name+" 2024-03-01")
	}
	for n := range 6 {
		l = append(l, fmt.Sprintf("event %d", n*4))
	}
	return l
}

// toldAll: what is told to all of these behind a script, without the lines' numbers.
func toldAll(t *testing.T, in string) []string {
	t.Helper()
	l := unnumbered(traceOf(t, in+text(asksAll()...)))
	return l[len(l)-len(asksAll()):]
}

// submitted: the events' lines that a script's ledger has at its end.
func submitted(t *testing.T, in string) []string {
	t.Helper()
	l := unnumbered(traceOf(t, in+"len\n"))
	n := num(strings.Fields(l[len(l)-1])[1])
	for i := range n {
		in += fmt.Sprintf("event %d\n", i+1)
	}
	l = unnumbered(traceOf(t, in))
	var events []string
	for _, a := range l[len(l)-n:] {
		events = append(events, "submit "+strings.TrimSuffix(strings.TrimPrefix(a, "ok "), "\n"))
	}
	return events
}

// TestP1_Balance: the trial balance's two sums are one, all rows add up to 0, and so do the roots.
func TestP1_Balance(t *testing.T) {
	for n := range uint64(12) {
		in := ""
		for i, piece := range pieces(roomy(100+n, 40)) {
			in += piece
			if i > 0 && !strings.HasPrefix(piece, "crash") {
				in += "trial\nquery show sum(amount)\nquery by root show sum(amount)\n"
			}
		}
		commands, _ := modelParse(in)
		for i, a := range unnumbered(traceOf(t, in)) {
			sum := big.NewInt(0)
			for _, row := range rowsIn(a) {
				switch c := commands[i]; {
				case c.Word == "trial":
					sum.Add(sum, cents(t, row[1])).Sub(sum, cents(t, row[2]))
				case c.Text == "show sum(amount)":
					sum.Add(sum, cents(t, row[0]))
				case c.Text == "by root show sum(amount)":
					sum.Add(sum, cents(t, row[1]))
				}
			}
			if sum.Sign() != 0 {
				t.Fatalf("%s%s: %v", in, a, sum)
			}
		}
	}
}

// TestP2_Recomputed: checkpoints, rebuilds, crashes and openings, put in at every place, change no report and no query.
func TestP2_Recomputed(t *testing.T) {
	for n := range uint64(6) {
		in := roomy(200+n, 30)
		l, want := pieces(in), toldAll(t, in+"reopen\n")
		for i := range l {
			if i == 0 || n > 1 && i%5 > 0 {
				continue
			}
			for _, put := range []string{"snapshot\n", "rebuild 1\n", "rebuild 3\nrebuild 3\n", "rebuild 9999\nrebuild 9999\n", "reopen\n", "crash 5\nreopen\n", "snapshot\ncrash\nreopen\n", "trim 0\n", "snapshot\nlose 0\nreopen\n", "snapshot\nturn 0 20 7\nreopen\n"} {
				ahead, behind := strings.Join(l[:i], ""), strings.Join(l[i:], "")
				if strings.Contains(put, "reopen") && isShut(t, ahead) {
					continue
				}
				if got := toldAll(t, ahead+put+behind+"reopen\n"); !slices.Equal(got, want) {
					t.Fatalf("%s%s%s%q", ahead, put, behind, got)
				}
			}
		}
	}
}

// isShut tells whether there is no ledger behind a script.
func isShut(t *testing.T, in string) bool {
	t.Helper()
	return strings.HasSuffix(traceOf(t, in+"len\n"), " closed\n")
}

// TestP3_Power: the power fails at each of the changing calls of a script's disk, and the crash leaves this or that.
func TestP3_Power(t *testing.T) {
	lines := []string{"submit open 2024-01-01 A asset", "submit open 2024-01-01 B asset", "snapshot", "submit post 2024-01-02 x A 5, B -5", "import\nlock 2024-01-01\nlock 2024-01-02\nend", "trim 0", "snapshot", "rebuild 2", "submit post 2024-01-03 y A 5, B -5", "rebuild 9", "rebuild 9", "snapshot", "trim 1", "submit lock 2024-02-01"}
	for _, segment := range []int{64, 4096} {
		head := fmt.Sprintf("daybook 100000 %d 2\n", segment)
		failed := 0
		for fuse := range 70 {
			for _, crash := range []string{"crash", "crash 99999", "crash 5", "crash 0 1 12 13", "crash 13 12 1 0 7"} {
				in := head + fmt.Sprintf("fuse %d\n", fuse) + text(lines...) + text("len", crash, "len", "reopen", "len", "event 3", "submit lock 2024-03-01", "trial")
				trace := playsAlike(t, in)
				staysDurable(t, trace, in)
				failed += strings.Count(trace, "error 34")
				// What is there behind it is the list's own beginning.
				events := submitted(t, in)
				all := submitted(t, head+text(lines...)+"submit lock 2024-03-01\n")
				if n := len(events) - 1; !slices.Equal(events[:n], all[:n]) || events[n] != "submit lock 2024-03-01" {
					t.Fatalf("%s%q", in, events)
				}
				same(t, "its reports", toldAll(t, in), toldAll(t, head+text(events...)))
			}
		}
		if failed == 0 {
			t.Error("the power has not failed")
		}
	}
	plays(t, begun("submit open 2024-01-01 A asset", "submit open 2024-01-01 B asset", "fuse 1", "submit post 2024-01-02 x A 5, B -5", "crash 25", "reopen", "submit post 2024-01-02 x A 7, B -7", "event 3"),
		"1 ok 0", "2 ok 1", "3 ok 2", "4 ok", "5 error 34", "6 ok", "7 ok 2", "8 ok 3", "9 ok post 2024-01-02 x A 7.00, B -7.00")
}

// TestP4_Refusals: a submit that is refused, put in at any place, changes nothing, and is refused again alike.
func TestP4_Refusals(t *testing.T) {
	refused := []string{"x", "", "open 2024-01-01 Assets asset", "open 2024-01-01 No:Parent", "close 2024-05-01 Nobody", "post 2024-05-01 n1 Costs 5, Assets:Bank -4", "post 2024-05-01 n1 Costs 92233720368547758.07, Assets:Bank -92233720368547758.07", "void 2024-05-01 n1 nobody", "invoice 2024-05-01 n1 Income:Work Assets:Bank due 2024-05-01 1", "allot 2024-05-01 n1 nobody nothing 1", "pay 2024-05-01 n1 Assets:Bank Costs 5"}
	for n := range uint64(4) {
		r := source(400 + n)
		in := "daybook 1048576 4096 2\n"
		for _, s := range first() {
			in += "submit " + s + "\n"
		}
		from := len(pieces(in))
		in += strings.Join(pieces(newMaker(r, 2).script("daybook 1 1 1", 25, false))[1:], "")
		l, whole := pieces(in), traceOf(t, in)
		for i := from; i < len(l); i++ {
			ahead := strings.Join(l[:i], "")
			if isShut(t, ahead) {
				continue
			}
			line := pick(r, refused...)
			twice := "submit " + line + "\nsubmit " + line + "\n"
			got := unnumbered(traceOf(t, ahead+twice+strings.Join(l[i:], "")))
			k := len(answersOf(traceOf(t, ahead)))
			if got[k] != got[k+1] || !strings.HasPrefix(got[k], "error ") {
				t.Fatalf("%q: %q, %q", line, got[k], got[k+1])
			}
			if rest := append(got[:k:k], got[k+2:]...); !slices.Equal(rest, unnumbered(whole)) {
				t.Fatalf("%s%s%s", ahead, twice, firstUnlike(strings.Join(rest, ""), strings.Join(unnumbered(whole), "")))
			}
		}
	}
}

// TestP5_Checkpoints: each byte of a checkpoint turned, this way or that, and each checkpoint lost: the opening gives the same ledger.
func TestP5_Checkpoints(t *testing.T) {
	head := strings.Join(story()[:16], "\n") + "\nsnapshot\nsubmit post 2024-03-01 z1 Costs 1, Assets:Bank -1\nsnapshot\nsubmit lock 2024-01-20\n"
	want := toldAll(t, head)
	p, _ := at(t, strings.Split(head, "\n")...)
	r := source(5)
	for n, f := range p.disk.State().Files[:2] {
		for place := range f.Data {
			in := head + fmt.Sprintf("turn %d %d %d\nreopen\n", 1-n, place, 1+r.IntN(255))
			if place%9 == 0 {
				in += "snapshot\nreopen\n"
			}
			same(t, "the answers", toldAll(t, in), want)
		}
	}
	for _, lines := range []string{"lose 0\n", "lose 1\n", "lose 0\nlose 0\n", "turn 0 0 1\nlose 1\n", "turn 0 99 1\nturn 1 99 1\n", "trim 0\n", "trim 1\n", "snapshot\n"} {
		same(t, "the answers", toldAll(t, head+lines+"reopen\n"), want)
	}
}

// TestP6_Rebuild: a rebuild is cut over at the latest at step (n by k, rounded up) and one.
func TestP6_Rebuild(t *testing.T) {
	for n := range 12 {
		for k := 1; k < 14; k++ {
			in, want := []string{"daybook 100000 64 2"}, []string{"1 ok 0"}
			for i := range n {
				in = append(in, "submit lock "+dateText(d+i))
				want = append(want, fmt.Sprintf("%d ok %d", i+2, i+1))
			}
			for taken := 0; taken < n; {
				taken = min(taken+k, n)
				in = append(in, fmt.Sprintf("rebuild %d", k))
				want = append(want, fmt.Sprintf("%d ok 0 1 %d %d", len(in), taken, n))
			}
			in = append(in, fmt.Sprintf("rebuild %d", k), "status")
			want = append(want, fmt.Sprintf("%d ok 1 0 0 %d", len(in)-1, n), fmt.Sprintf("%d ok 1 0 0 %d 0", len(in), n))
			plays(t, text(in...), want...)
		}
	}
}

// TestP7_Queries: a query, and what is printed of it, are answered alike.
func TestP7_Queries(t *testing.T) {
	r := source(7)
	m := newMaker(r, 2)
	in := m.script("daybook 1048576 4096 2", 120, false) + "reopen\n"
	for range 200 {
		s := m.query()
		q, _, why := grammar.Parse(s)
		if why != 0 {
			continue
		}
		printed, _ := grammar.Print(q)
		l := unnumbered(traceOf(t, in+"query "+s+"\nquery "+printed+"\nrebuild 9999\nrebuild 9999\nquery "+s+"\n"))
		k := len(l)
		if l[k-5] != l[k-4] || l[k-5] != l[k-1] {
			t.Fatalf("%q, %q: %q", s, printed, l[k-5:])
		}
	}
}

// TestP8_ThereAndBack: what is exported, imported into an empty ledger, gives the same books.
func TestP8_ThereAndBack(t *testing.T) {
	for n := range uint64(20) {
		in := roomy(800+n, 60) + "reopen\n"
		l := unnumbered(traceOf(t, in+"export\n"))
		journal := ""
		for line := range strings.Lines(l[len(l)-1]) {
			if strings.HasPrefix(line, " |") {
				journal += line[2:]
			}
		}
		same(t, "the answers", toldAll(t, "daybook 1048576 100 2\nimport\n"+journal+"end\n"), toldAll(t, in))
	}
}

// TestP9_Locked: behind a lock nothing that comes changes what is told of locked days.
func TestP9_Locked(t *testing.T) {
	for n := range uint64(10) {
		in := roomy(900+n, 40) + "reopen\nsubmit lock 2024-02-10\n"
		var ask []string
		for _, name := range []string{"Assets", bank, ann, cust, "Costs", work, "Own"} {
			for _, day := range []string{"2024-01-05", "2024-02-01", "2024-02-10"} {
				ask = append(ask, "daily "+name+" 0001-01-01 "+day, "aged "+name+" "+day, "open "+name+" "+day)
			}
		}
		ask = append(ask, "query where day <= 2024-02-10 by account show sum(amount) order 1", "query where day <= 2024-02-10 show count")
		before := unnumbered(traceOf(t, in+text(ask...)))
		m := newMaker(source(950+n), 2)
		m.n = 1000 // other keys
		more := strings.Join(pieces(m.script("daybook 1 1 1", 80, false))[1:], "")
		after := unnumbered(traceOf(t, in+more+"reopen\n"+text(ask...)))
		for i := range ask {
			a, b := before[len(before)-len(ask)+i], after[len(after)-len(ask)+i]
			if a != b && a != "error 61\n" { // an account that is opened later has no rows there
				t.Fatalf("%q: %q, then %q", ask[i], a, b)
			}
		}
	}
}

// TestP10_Ages: the five ages add up to what is open, at every day.
func TestP10_Ages(t *testing.T) {
	for n := range uint64(6) {
		in := roomy(1000+n, 80) + "reopen\n"
		var ask []string
		for day := d - 5; day < d+160; day += 3 {
			for _, name := range []string{ann, cust, bank} {
				ask = append(ask, "aged "+name+" "+dateText(day), "open "+name+" "+dateText(day))
			}
		}
		l := unnumbered(traceOf(t, in+text(ask...)))
		l = l[len(l)-len(ask):]
		for i := 0; i < len(l); i += 2 {
			if strings.HasPrefix(l[i], "error") {
				continue
			}
			sum := big.NewInt(0)
			for _, a := range strings.Fields(l[i])[1:] {
				sum.Add(sum, cents(t, a))
			}
			for _, row := range rowsIn(l[i+1]) {
				sum.Sub(sum, cents(t, row[3]))
			}
			if sum.Sign() != 0 {
				t.Fatalf("%s: %q, %q", ask[i], l[i], l[i+1])
			}
		}
	}
}

// TestP11_OneList: two ledgers that took the same events are alike, whatever else they had.
func TestP11_OneList(t *testing.T) {
	r := source(11)
	for range 25 {
		in := newMaker(r, 2).script(fmt.Sprintf("daybook %d %d 2", pick(r, 100000, 3000), pick(r, 64, 4096)), 80, true) + "crash 3\nreopen\n"
		if strings.HasSuffix(traceOf(t, in), "ok 0\n") {
			continue
		}
		events := submitted(t, in)
		for _, head := range []string{"daybook 1048576 65536 2", "daybook 1048576 1000 2"} {
			same(t, "the answers", toldAll(t, head+"\n"+text(events...)), toldAll(t, in))
		}
	}
}

// TestTenExamples: DOC.md's, as a script.
func TestTenExamples(t *testing.T) {
	plays(t, begun(
		"submit open 2024-01-01 Assets asset", "submit open 2024-01-01 Assets:Bank", "submit open 2024-01-01 Income income", "submit open 2024-01-01 Income:Work", "submit open 2024-01-01 Assets:Bank", "submit open 2024-01-01 Assets:Cust:Ann", "submit open 2024-01-01 Assets:Cust", "submit open 2024-01-01 Assets:Cust:Ann",
		"submit invoice 2024-01-10 i1 Assets:Cust:Ann Income:Work due 2024-02-09 100.00", "rollup Assets", "trial",
		"submit pay 2024-02-20 p1 Assets:Cust:Ann Assets:Bank 60.00", "submit allot 2024-02-20 a1 p1 i1 70.00", "submit allot 2024-02-20 a1 p1 i1 60.00", "left i1", "left p1",
		"aged Assets:Cust:Ann 2024-02-09", "aged Assets:Cust:Ann 2024-02-10", "aged Assets:Cust:Ann 2024-02-20", "aged Assets:Cust:Ann 2024-03-11",
		"submit post 2024-02-01 x1 Assets:Bank -5.00, Assets:Cust:Ann 5.01", "submit post 2024-02-01 x1 Assets:Bank -5.00, Assets:Cust:Ann 5.00", "submit post 2024-02-01 x1 Assets:Bank -5.00, Assets:Cust:Ann 5.00",
		"daily Assets:Bank 2024-01-01 2024-12-31",
		"submit lock 2024-01-31", "submit void 2024-01-15 v1 x1", "submit void 2024-02-01 v1 x1", "submit void 2024-02-01 v2 x1",
		"submit close 2024-03-01 Assets:Cust:Ann",
		"fuse 1", "submit lock 2024-02-01", "crash 0", "reopen", "fuse 1", "submit lock 2024-02-01", "crash 99", "reopen",
		"query where account under 'Assets' by month show sum(amount)"),
		"1 ok 0", "2 ok 1", "3 ok 2", "4 ok 3", "5 ok 4", "6 error 62", "7 error 61", "8 ok 5", "9 ok 6",
		"10 ok 7", "11 ok 0.00 100.00", "12 ok 2", "  Assets:Cust:Ann 100.00 0.00", "  Income:Work 0.00 100.00",
		"13 ok 8", "14 error 75", "15 ok 9", "16 ok 40.00", "17 ok 0.00",
		"18 ok 100.00 0.00 0.00 0.00 0.00", "19 ok 0.00 100.00 0.00 0.00 0.00", "20 ok 0.00 40.00 0.00 0.00 0.00", "21 ok 0.00 0.00 40.00 0.00 0.00",
		"22 error 72", "23 ok 10", "24 error 70",
		"25 ok 2", "  2024-02-01 -5.00 -5.00", "  2024-02-20 60.00 55.00",
		"26 ok 11", "27 error 71", "28 ok 12", "29 error 74",
		"30 error 65",
		"31 ok", "32 error 34", "33 ok", "34 ok 12", "35 ok", "36 error 34", "37 ok", "38 ok 13",
		"39 ok 2 2", "  202401 100.00", "  202402 0.00")
}
