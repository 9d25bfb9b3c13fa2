package script

import (
	"encoding/binary"
	"fmt"
	"hash/crc32"
	"strings"
	"testing"

	"daybook/api"
)

// at: a player behind a script.
func at(t *testing.T, lines ...string) (*player, string) {
	t.Helper()
	commands, err := Parse(text(lines...))
	if err != nil {
		t.Fatal(err)
	}
	var p player
	var trace strings.Builder
	for _, c := range commands {
		p.play(c).write(&trace, c.Line)
	}
	return &p, trace.String()
}

// three: three events, with a checkpoint behind each, so that the disk has ckpt-000001 to ckpt-000003.
func three(more ...string) []string {
	return append([]string{"daybook 100000 4096 2", "submit open 2024-01-01 A asset", "snapshot", "submit open 2024-01-01 B asset", "snapshot", "submit post 2024-01-02 x A 5, B -5", "snapshot"}, more...)
}

// last: the last answers of a trace, so many, without their lines' numbers.
func last(trace string, n int) string {
	l := answersOf(trace)
	s := ""
	for _, a := range l[len(l)-n:] {
		_, rest, _ := strings.Cut(a, " ")
		s += rest
	}
	return s
}

func TestP19_2_Lose(t *testing.T) {
	before, _ := at(t, three()...)
	for n, name := range []string{"ckpt-000003", "ckpt-000002", "ckpt-000001"} {
		p, trace := at(t, three(fmt.Sprintf("lose %d", n))...)
		same(t, "its answer", last(trace, 1), "ok "+name+"\n")
		want := before.disk.State()
		i := 2 - n
		same(t, "its name", want.Files[i].Name, name)
		want.Files = append(want.Files[:i:i], want.Files[i+1:]...)
		same(t, "the disk", p.disk.State(), want)
		same(t, "the ledger", p.ledger == nil, true)
		trace = traceOf(t, text(three(fmt.Sprintf("lose %d", n), "len", "reopen", "trial", "event 3")...))
		same(t, "behind it", last(trace, 4), text("closed", "ok 3", "ok 2", "  A 5.00 0.00", "  B 0.00 5.00", "ok post 2024-01-02 x A 5.00, B -5.00"))
	}
	for _, n := range []string{"3", "4", "-1", "-2", "9999999999", "-9999999999"} {
		p, trace := at(t, three("lose "+n)...)
		same(t, "its answer", last(trace, 1), "error 31\n")
		same(t, "the disk", p.disk.State(), before.disk.State())
		same(t, "the ledger", p.ledger != nil, true)
	}
	same(t, "all of them", last(traceOf(t, text(three("lose 1", "lose 1", "lose 1", "lose 0", "lose 0", "files", "reopen")...)), 7),
		text("ok ckpt-000002", "ok ckpt-000001", "error 31", "ok ckpt-000003", "error 31", "ok 2", "  log 15 15", "  log-000001 56 56", "ok 3"))
	plays(t, begun("lose 0", "len", "turn 0 0 0", "len"), "1 ok 0", "2 error 31", "3 ok 0", "4 error 31", "5 ok 0")
	plays(t, begun("snapshot", "lose 0", "lose 0"), "1 ok 0", "2 ok", "3 ok ckpt-000000", "4 error 31")
	// What a Write has left is no checkpoint's file.
	plays(t, begun("fuse 2", "snapshot", "crash", "files", "lose 0", "turn 0 0 1", "reopen", "trim 0", "files"),
		"1 ok 0", "2 ok", "3 error 34", "4 ok", "5 ok 3", "  ckpt.tmp 0 0", "  log 15 15", "  log-000001 0 0", "6 error 31", "7 error 31", "8 ok 0", "9 ok 1", "10 ok 2", "  log 15 15", "  log-000001 0 0")
}

func TestP19_2_Turn(t *testing.T) {
	before, _ := at(t, three()...)
	sizes := map[int]int{}
	for i, f := range before.disk.State().Files[:3] {
		sizes[2-i] = len(f.Data)
	}
	for n, name := range []string{"ckpt-000003", "ckpt-000002", "ckpt-000001"} {
		for _, place := range []int{0, 1, sizes[n] / 2, sizes[n] - 1} {
			for _, x := range []struct {
				x  int
				by byte
			}{{0, 0}, {1, 1}, {255, 255}, {256, 0}, {257, 1}, {-1, 255}, {-255, 1}, {-256, 0}, {-257, 255}, {128, 128}, {-128, 128}, {9999999999, 255}, {-9999999999, 1}, {1000, 232}} {
				p, trace := at(t, three(fmt.Sprintf("turn %d %d %d", n, place, x.x))...)
				same(t, "its answer", last(trace, 1), "ok "+name+"\n")
				want := before.disk.State()
				want.Files[2-n].Data[place] ^= x.by
				same(t, "the disk", p.disk.State(), want)
				same(t, "the ledger", p.ledger == nil, true)
				same(t, "behind it", last(traceOf(t, text(three(fmt.Sprintf("turn %d %d %d", n, place, x.x), "len", "reopen", "trial")...)), 3), text("closed", "ok 3", "ok 2", "  A 5.00 0.00", "  B 0.00 5.00"))
			}
		}
		for _, place := range []int{sizes[n], sizes[n] + 1, -1, -sizes[n], 9999999999, -9999999999} {
			p, trace := at(t, three(fmt.Sprintf("turn %d %d 1", n, place))...)
			same(t, "its answer", last(trace, 1), "error 31\n")
			same(t, "the disk", p.disk.State(), before.disk.State())
			same(t, "the ledger", p.ledger != nil, true)
		}
	}
	for _, n := range []string{"3", "-1", "9999999999", "-9999999999"} {
		p, trace := at(t, three("turn "+n+" 0 1")...)
		same(t, "its answer", last(trace, 1), "error 31\n")
		same(t, "the disk", p.disk.State(), before.disk.State())
		same(t, "the ledger", p.ledger != nil, true)
	}
}

// TestP19_2_FuseStays: lose and turn leave the fuse as it is.
func TestP19_2_FuseStays(t *testing.T) {
	for _, line := range []string{"lose 0", "lose 2", "turn 1 0 1", "turn 0 5 0"} {
		for fuse := range 6 {
			p, _ := at(t, three(fmt.Sprintf("fuse %d", fuse), line)...)
			same(t, "the fuse", p.disk.State().Fuse, fuse)
			trace := traceOf(t, text(three(fmt.Sprintf("fuse %d", fuse), line, "reopen", "submit lock 2024-01-01", "len")...))
			want := "ok 4\nok 4\n"
			if fuse < 2 {
				want = "error 34\nok 3\n"
			}
			same(t, "behind it", last(trace, 2), want)
		}
		p, _ := at(t, three(line)...)
		same(t, "no fuse", p.disk.State().Fuse, -1)
		same(t, "down: nothing happens", last(traceOf(t, text(three("fuse 0", "submit lock 2024-01-01", line, "len", "status", "crash", line)...)), 5), "error 31\nok 3\nok 0 0 0 3 0\nok\n"+last(traceOf(t, text(three(line)...)), 1))
	}
}

// forged: the lines by which a script turns the newest checkpoint's bytes, sums and all, into those in which each of these texts is replaced.
func forged(t *testing.T, lines []string, from, to string) []string {
	t.Helper()
	p, _ := at(t, lines...)
	files := p.disk.State().Files
	var data []byte
	for _, f := range files {
		if strings.HasPrefix(f.Name, "ckpt-") {
			data = f.Data
		}
	}
	body := data[16 : len(data)-4]
	if len(from) != len(to) || !strings.Contains(string(body), from) {
		t.Fatalf("%q does not stand there", from)
	}
	made := append([]byte{}, data[:16]...)
	made = append(made, strings.ReplaceAll(string(body), from, to)...)
	made = binary.LittleEndian.AppendUint32(made, crc32.ChecksumIEEE(made[16:]))
	out := append([]string{}, lines...)
	for i := range made {
		if x := made[i] ^ data[i]; x != 0 {
			out = append(out, fmt.Sprintf("turn 0 %d %d", i, x))
		}
	}
	return out
}

// TestP19_2_Forged: a forged checkpoint is taken at its word. New books make no rows of events that were taken behind it and that they refuse.
func TestP19_2_Forged(t *testing.T) {
	l := forged(t, begunLines("submit open 2024-01-01 A asset", "snapshot", "crash"), "\x01A", "\x01B")
	l = append(l, "reopen", "accounts", "event 1", "submit open 2024-01-01 B:C", "submit post 2024-01-02 x B 5, B:C -5", "trial", "sheet trial", "sheet position 2024-01-02", "sheet income 2024-01-01 2024-01-02", "sheet tree", "lose 0", "reopen", "len")
	trace := playsAlike(t, text(l...))
	same(t, "the trace", last(trace, 13), text("ok 1", "ok 1", "  B 1 2024-01-01 open", "ok open 2024-01-01 A asset", "ok 2", "ok 3", "ok 2", "  B 5.00 0.00", "  B:C 0.00 5.00",
		"ok 4", " |Account  Debit  Credit", " |B         5.00", " |B:C               5.00", " |Sum       5.00    5.00",
		"ok 9", " |At 2024-01-02", " |Asset", " |Sum        0.00", " |Liability", " |Sum        0.00", " |Equity", " |  Result   0.00", " |Sum        0.00", " |Total      0.00",
		"ok 6", " |From 2024-01-01 to 2024-01-02", " |Income", " |Sum      0.00", " |Expense", " |Sum      0.00", " |Result   0.00",
		"ok 2", " |B     0.00", " |  C  -5.00",
		"ok ckpt-000001", "error 40", "closed"))
}

// TestP19_2_ForgedRows: rows on an account that the forged accounts have not are the sheet's error.
func TestP19_2_ForgedRows(t *testing.T) {
	l := forged(t, begunLines("submit open 2024-01-01 Aa asset", "submit open 2024-01-01 I income", "submit post 2024-01-02 x Aa 5, I -5", "snapshot", "crash"), "\x02Aa", "\x02Ab")
	trace := playsAlike(t, text(append(l, "reopen", "trial", "sheet income 2024-01-01 2024-01-02", "sheet position 2024-01-02", "sheet income 2024-01-02 2024-01-01")...))
	same(t, "the trace", last(trace, 5), text("ok 3", "ok 2", "  Ab 5.00 0.00", "  I 0.00 5.00", "error 61", "error 61", "error 1"))
}

func begunLines(l ...string) []string { return append([]string{"daybook 100000 4096 2"}, l...) }

func TestP19_2_Fuse(t *testing.T) {
	plays(t, begun("fuse -1", "fuse 0", "fuse 1048576", "fuse 1048577", "fuse -2", "fuse 1", "submit open 2024-01-01 A asset", "fuse 1", "fuse 1048577", "fuse -1"),
		"1 ok 0", "2 ok", "3 ok", "4 ok", "5 error 1", "6 error 1", "7 ok", "8 error 34", "9 error 34", "10 error 1", "11 error 34")
}

// TestP19_2_Crash: what each number keeps of a file, and that the disk's files take them in turn.
func TestP19_2_Crash(t *testing.T) {
	// ckpt.tmp, log and log-000001: the torn record is of the third one.
	for _, x := range []struct {
		crash string
		size  int
		n     string
	}{
		{"crash", 15, "1"}, {"crash 0", 15, "1"}, {"crash -1", 15, "1"}, {"crash 1", 16, "1"}, {"crash 11", 26, "1"}, {"crash 12", 27, "2"}, {"crash 13", 27, "2"}, {"crash 9999999999", 27, "2"}, {"crash -9999999999", 15, "1"},
		{"crash 0 12", 27, "2"}, {"crash 12 0", 15, "1"}, {"crash 0 0 12", 15, "1"}, {"crash 0 5 0", 20, "1"}, {"crash 0" + strings.Repeat(" 0", 62) + " 12", 15, "1"}, {"crash 0 12" + strings.Repeat(" 0", 62), 27, "2"},
	} {
		in := text("daybook 100000 4096 2", "submit open 2024-01-01 A asset", "fuse 1", "submit lock 2024-01-01", "len", x.crash, "len", "files", "reopen")
		plays(t, in, "1 ok 0", "2 ok 1", "3 ok", "4 error 34", "5 ok 1", "6 ok", "7 closed", "8 ok 2", "  log 15 15", fmt.Sprintf("  log-000001 %d %d", x.size, x.size), "9 ok "+x.n)
		playsAlike(t, in)
	}
}

// TestP19_2_EveryOrder: fuse, crash and reopen, a submit and a len, put together in every order, up to five of them.
func TestP19_2_EveryOrder(t *testing.T) {
	kinds := []string{"fuse 0", "fuse 1", "fuse 3", "crash", "crash 99", "reopen", "submit", "trial"}
	for length := 1; length <= 5; length++ {
		if length == 5 {
			kinds = []string{"fuse 1", "crash", "crash 99", "reopen", "submit"}
		}
		order := make([]int, length)
		for {
			l, n := []string{"daybook 1000 64 2", "submit open 2024-01-01 A asset"}, 0
			for _, i := range order {
				if kinds[i] == "submit" {
					l = append(l, "submit lock "+dateText(d+n))
					n++
				} else {
					l = append(l, kinds[i])
				}
			}
			l = append(l, "len", "crash 99", "reopen", "len")
			staysDurable(t, playsAlike(t, text(l...)), text(l...))
			i := 0
			for ; i < length && order[i] == len(kinds)-1; i++ {
				order[i] = 0
			}
			if i == length {
				break
			}
			order[i]++
		}
	}
}

// staysDurable: P3 as a trace shows it: an opening tells as many events as were answered with a number, or one more, where a submit or an import has met the power's failing.
func staysDurable(t *testing.T, trace, in string) {
	t.Helper()
	commands, _ := modelParse(in)
	events, pending, up := 0, false, true
	for i, a := range answersOf(trace) {
		w := strings.Fields(a)[1:]
		c := commands[i]
		met := w[0] == "error" && w[1] == "34"
		switch {
		case c.Word == "submit" && w[0] == "ok":
			events++
			same(t, "a number", w[1], fmt.Sprint(events))
		case c.Word == "import" && w[0] == "ok":
			events += num(w[1])
		case c.Word == "import" && w[0] == "error":
			events += num(w[2])
		case c.Word == "len" && w[0] == "ok":
			same(t, "len", w[1], fmt.Sprint(events))
		case c.Word == "reopen" && w[0] == "ok":
			if n := num(w[1]); n != events && (!pending || n != events+1) {
				t.Fatalf("%s\n%s: %d events, pending: %v", in, a, events, pending)
			} else {
				events = n
			}
			pending, up = false, true
		}
		if (c.Word == "submit" || c.Word == "import") && met && up {
			pending = true
		}
		if met && !strings.Contains(" fuse reopen ", " "+c.Word+" ") {
			up = false
		}
	}
}

func TestDurableWalks(t *testing.T) {
	r := source(3)
	for range 150 {
		in := newMaker(r, 2).script(fmt.Sprintf("daybook %d %d 2", pick(r, 100000, 900, 3000), pick(r, 64, 256, 4096)), 20+r.IntN(150), true)
		staysDurable(t, traceOf(t, in), in)
	}
}

// TestP19_2_NoSettings: a ledger that can't be opened stays so, and the disk goes on.
func TestP19_2_NoSettings(t *testing.T) {
	for _, head := range []string{"daybook 1000 63 2", "daybook 1000 65537 2", "daybook 1000 64 7", "daybook 1000 64 -1", "daybook 1000 -64 2", "daybook 1000 0 0"} {
		plays(t, text(head, "len", "free", "reopen", "len", "crash", "reopen", "files"), "1 error 1", "2 closed", "3 ok 1000", "4 error 1", "5 closed", "6 ok", "7 error 1", "8 ok 0")
	}
	for _, head := range []string{"daybook 1048576 64 0", "daybook 1048576 65536 6", "daybook 15 64 2"} {
		if p, _ := at(t, head); p.ledger == nil || p.disk == nil {
			t.Error(head)
		}
	}
	p, _ := at(t, "daybook 5 64 3")
	same(t, "the settings", p.settings, api.Settings{Segment: 64, Digits: 3})
}
