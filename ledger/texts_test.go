package ledger

import (
	"errors"
	"fmt"
	"strings"
	"testing"

	"daybook/api"
	"daybook/paper"
)

// exported: a ledger's journal.
func exported(t *testing.T, l *Ledger) string {
	t.Helper()
	s, why := l.Export()
	want(t, "Export", why, api.OK)
	return s
}

func TestP18_7Export(t *testing.T) {
	for digits := range api.MaxDigits + 1 {
		x := newDisk(t, api.MaxDisk)
		l, why := Open(x, api.Settings{Segment: 64, Digits: digits})
		want(t, "Open", why, api.OK)
		events := append(story(), later()...)
		for n := range len(events) + 1 {
			wanted, why := paper.Print(events[:n], digits)
			want(t, "Print", why, api.OK)
			same(t, "Export", exported(t, l), wanted)
			if n < len(events) {
				takes(t, l, events[n:n+1])
			}
		}
		was := shown(x)
		exported(t, l)
		same(t, "the disk", shown(x), was)
	}
}

// longest: a posting whose text is as long as most are.
func longest(n int) api.Event {
	e := post(d, fmt.Sprintf("%024d", n))
	for i := range api.MaxLines {
		e.Lines = append(e.Lines, line(deepest(i%2), int64(1-i%2*2)))
	}
	return e
}

// deepest: one of two names that are as long as can be.
func deepest(i int) string {
	return strings.Repeat(strings.Repeat("A", api.MaxPart)+":", api.MaxDepth-1) + strings.Repeat(string(rune('A'+i)), api.MaxPart)
}

// many: a ledger with so many of the longest postings.
func many(t *testing.T, n int) *Ledger {
	t.Helper()
	l, _ := kept(t, 65536, nil)
	root := strings.Repeat("A", api.MaxPart)
	for depth := range api.MaxDepth {
		name := strings.TrimSuffix(strings.Repeat(root+":", depth+1), ":")
		typ := 0
		if depth == 0 {
			typ = api.Asset
		}
		takes(t, l, []api.Event{opens(d, name, typ)})
	}
	takes(t, l, []api.Event{opens(d, deepest(1), 0)})
	for i := range n {
		takes(t, l, []api.Event{longest(i)})
	}
	return l
}

// TestP18_7Long: a text that is too long; and P18.9's: so is a checkpoint. Neither does the ledger any harm.
func TestP18_7Long(t *testing.T) {
	l := many(t, 100)
	want(t, "Snapshot", l.Snapshot(), api.OK)
	gone, why := l.Trim(0)
	want(t, "Trim", why, api.OK)
	same(t, "Trim", gone, 1)
	last := ""
	for n := 100; why == api.OK; n++ {
		takes(t, l, []api.Event{longest(n)})
		s := ""
		if s, why = l.Export(); why == api.OK {
			last = s
		} else {
			same(t, "Export", s, "")
		}
	}
	want(t, "Export", why, api.ErrLong)
	if len(last) > api.MaxText || len(last) < api.MaxText-2000 {
		t.Errorf("the longest text has %d bytes", len(last))
	}
	has(t, l, api.Progress{Of: l.Len()}, false)
	for n := l.Len(); n < 620; n++ {
		takes(t, l, []api.Event{longest(n + 1000)})
	}
	was := shown(l.disk)
	want(t, "Snapshot", l.Snapshot(), api.ErrLong)
	same(t, "the disk", shown(l.disk), was)
	has(t, l, api.Progress{Of: l.Len()}, false)
	takes(t, l, []api.Event{longest(9999)})
	same(t, "Len", on(t, l.disk, 64).Len(), l.Len())

	// What is too long for a checkpoint is told ahead of what the disk answers, for a text behind it.
	failPower(t, l.disk)
	want(t, "Snapshot", l.Snapshot(), api.ErrLong)
	_, why = l.Trial()
	want(t, "Trial", why, api.OK)
	_, why = l.Export()
	want(t, "Export", why, api.ErrDown)
	want(t, "Snapshot", l.Snapshot(), api.ErrDown)
}

// TestP18_8ThereAndBack: the journal of a ledger, imported into an empty one.
func TestP18_8ThereAndBack(t *testing.T) {
	for digits := range api.MaxDigits + 1 {
		s := api.Settings{Segment: 100, Digits: digits}
		x := newDisk(t, api.MaxDisk)
		l, why := Open(x, s)
		want(t, "Open", why, api.OK)
		takes(t, l, append(story(), later()...))
		m, why := Open(newDisk(t, api.MaxDisk), s)
		want(t, "Open", why, api.OK)
		n, err := m.Import(exported(t, l))
		same(t, "Import", n, 37)
		same(t, "Import", err, nil)
		same(t, "what is told", told(m), told(l))
		same(t, "the disk", shown(m.disk), shown(l.disk))
	}
}

func TestP18_8Taken(t *testing.T) {
	l, x := kept(t, 4096, story())
	was := shown(x)
	for _, s := range []string{"", "\n\n", "; nothing", " \t\n; nothing\n"} {
		n, err := l.Import(s)
		same(t, "Import", n, 0)
		same(t, "Import", err, nil)
	}
	same(t, "the disk", shown(x), was)
	n, err := l.Import("; more\npost 2024-04-01 l1 \"m\"\n  Costs 5\n  ; here\n  Assets:Bank #flat\n\nlock 2024-03-01\n")
	same(t, "Import", n, 2)
	same(t, "Import", err, nil)
	p := post(d+91, "l1", line("Costs", 500), api.Line{Account: bank, Amount: -500, Tag: "flat"})
	p.Memo = "m"
	alike(t, "behind it", l, behind(t, append(story(), p, lock(d+60))))
}

// TestP18_8Fault: a text that is no journal: nothing of it is taken, whatever stands ahead of the fault.
func TestP18_8Fault(t *testing.T) {
	l, x := kept(t, 4096, story())
	was := shown(x)
	for s, f := range map[string]api.Fault{
		"no event":                            {Line: 1, At: 0, Why: api.ErrPaper},
		"lock 2024-04-01\n  Costs 5\n":        {Line: 2, At: 2, Why: api.ErrPaper},
		"lock 2024-04-01\n\nlock 2024-04-31":  {Line: 3, At: 0, Why: api.ErrPaper},
		"lock 2024-01-01\nlock\n":             {Line: 2, At: 0, Why: api.ErrPaper}, // ahead of what the books refuse
		"lock 2024-04-01\npost 2024-04-02 k":  {Line: 2, At: 0, Why: api.ErrPaper},
		"\n" + strings.Repeat(";", 2001):      {Line: 2, At: 2000, Why: api.ErrLong},
		strings.Repeat("\n", 400001):          {Line: 0, At: 0, Why: api.ErrLong},
		"pay 2024-04-01 k A B 0.001\n":        {Line: 1, At: 0, Why: api.ErrPaper}, // more than two digits
		"lock 2024-04-01\n lock 2024-04-02\n": {Line: 2, At: 1, Why: api.ErrPaper},
	} {
		n, err := l.Import(s)
		same(t, s, n, 0)
		got, is := err.(*api.Fault)
		if !is || *got != f || !errors.Is(err, f.Why) {
			t.Errorf("%.50q: %#v, want %+v", s, err, f)
		}
	}
	same(t, "the disk", shown(x), was)
	alike(t, "behind them", l, behind(t, story()))
}

// TestP18_8Refused: up to the first event that is refused, which is told by its Errno.
func TestP18_8Refused(t *testing.T) {
	good := later()
	for n := range len(good) + 1 {
		for what, r := range refusals() {
			if r.why == api.ErrEvent {
				continue // no journal has it
			}
			l, _ := kept(t, 300, story())
			model := behind(t, append(story(), good[:n]...))
			s, why := paper.Print(good[:n], 2)
			want(t, "Print", why, api.OK)
			bad, why := paper.Print([]api.Event{r.e}, 2)
			want(t, "Print", why, api.OK)
			rest, why := paper.Print(good[n:], 2)
			want(t, "Print", why, api.OK)
			taken, err := l.Import(s + bad + rest)
			if taken != n || err != error(model.books.Check(r.e)) {
				t.Errorf("%s behind %d: %d, %v", what, n, taken, err)
			}
			if got, why := l.Trial(); why != api.OK || l.Len() != 27+n {
				t.Errorf("%s behind %d: %v, %d; Len %d", what, n, got, int(why), l.Len())
			}
			if n == 5 {
				alike(t, what, l, model)
			}
		}
	}
}

// TestP18_8NoRoom: the disk is full in the midst of a journal.
func TestP18_8NoRoom(t *testing.T) {
	s, _ := paper.Print(story(), 2)
	midst := 0
	for capacity := 20; capacity < 1700; capacity += 13 {
		x := newDisk(t, capacity)
		l := on(t, x, 64)
		n, err := l.Import(s)
		alike(t, fmt.Sprint("with ", capacity), l, behind(t, story()[:n]))
		if err == nil {
			same(t, "Import", n, 27)
			has(t, l, api.Progress{Of: 27}, false)
			continue
		}
		midst++
		same(t, "Import", err, error(api.ErrFull))
		has(t, l, api.Progress{Of: n}, true)
		n, err = l.Import(s)
		same(t, "Import", n, 0)
		same(t, "Import", err, error(api.ErrReadOnly))
	}
	if midst < 20 {
		t.Errorf("only %d disks were full", midst)
	}
}
