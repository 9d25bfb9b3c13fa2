package ledger

import (
	"fmt"
	"slices"
	"testing"

	"daybook/api"
	"daybook/day"
	"daybook/event"
	"daybook/grammar"
)

// anyEvents: a list of n events that books take one behind the other, and refused ones, each with the number of those ahead of it.
func anyEvents(t *testing.T, seed uint64, n int) (taken []api.Event, refused map[int][]api.Event) {
	t.Helper()
	r := source(seed)
	p := behind(t, nil)
	refused = map[int][]api.Event{}
	for p.Len() < n {
		e := next(r, p.base)
		if p.books.Check(e) == api.OK {
			p = p.with(t, e)
		} else {
			refused[p.Len()] = append(refused[p.Len()], e)
		}
	}
	return p.events, refused
}

// TestP1Balance: behind every event.
func TestP1Balance(t *testing.T) {
	for seed := range uint64(6) {
		events, _ := anyEvents(t, seed, 60)
		l, _ := kept(t, 300, nil)
		for _, e := range events {
			takes(t, l, []api.Event{e})
			balanced(t, l)
		}
	}
}

// balanced: the rows add up to 0, the trial balance's two sums are one, and the rollups of all roots add up to 0.
func balanced(t *testing.T, l *Ledger) {
	t.Helper()
	table, _, why := l.Query("show sum(amount), sum(amount * 1)")
	want(t, "Query", why, api.OK)
	same(t, "the rows' sums", fmt.Sprint(table.Rows[0]), fmt.Sprint([]api.Cell{{Type: api.TMoney}, {Type: api.TMoney}}))
	trial, _ := l.Trial()
	debits, credits := int64(0), int64(0)
	for _, c := range trial {
		debits, credits = debits+c.Debit, credits+c.Credit
	}
	same(t, "the debits", debits, credits)
	accounts, _ := l.Accounts()
	sum := int64(0)
	for _, a := range accounts {
		if b, why := l.Rollup(a.Name); why != api.OK {
			t.Errorf("Rollup of %s: error %d", a.Name, int(why))
		} else if !slices.Contains([]byte(a.Name), ':') {
			sum += b.Rollup
		}
	}
	same(t, "the roots' rollups", sum, 0)
}

// TestP2AllWays: event by event; from a checkpoint and the events behind it; by a rebuild in steps with events coming in; opened anew; behind a crash.
func TestP2AllWays(t *testing.T) {
	for seed := range uint64(8) {
		events, _ := anyEvents(t, 20+seed, 70)
		r := source(40 + seed)
		model := behind(t, events)
		one, x := kept(t, 300, nil)
		for _, e := range events {
			takes(t, one, []api.Event{e})
			if r.IntN(8) == 0 {
				want(t, "Snapshot", one.Snapshot(), api.OK)
			}
		}
		alike(t, "event by event", one, model)
		alike(t, "from a checkpoint", on(t, x, 300), model)
		one.Trim(0)
		alike(t, "from the records alone", on(t, x, 300), model)
		steps, _ := kept(t, 300, nil)
		for _, e := range events {
			takes(t, steps, []api.Event{e})
			for range r.IntN(4) {
				steps.Rebuild(1 + r.IntN(5))
			}
		}
		if p, _ := steps.Status(); p.Gen == 0 {
			t.Error("nothing was rebuilt")
		}
		alike(t, "by rebuilds", steps, model)
		alike(t, "behind a crash", on(t, crashed(t, x), 64), model)
	}
}

// TestP4RefusalChangesNothing: the refused events of a list, put in wherever they are refused.
func TestP4RefusalChangesNothing(t *testing.T) {
	reasons := map[api.Errno]int{}
	for seed := range uint64(6) {
		events, refused := anyEvents(t, 60+seed, 60)
		l, x := kept(t, 300, nil)
		for n, e := range events {
			for _, bad := range refused[n] {
				was, tells := shown(x), told(l)
				_, why := l.Submit(bad)
				_, again := l.Submit(bad)
				want(t, "the same event", again, why)
				same(t, "the disk", shown(x), was)
				same(t, "what is told", told(l), tells)
				if reasons[why]++; why == api.OK {
					t.Errorf("%+v was taken", bad)
				}
			}
			takes(t, l, []api.Event{e})
		}
		alike(t, "in the end", l, behind(t, events))
	}
	if len(reasons) < 10 {
		t.Errorf("the reasons: %v", reasons)
	}
}

// TestP5Checkpoints: Snapshot and Trim change nothing that is told; with any bits of a checkpoint turned within 32, one behind the other, the ledger is the same.
func TestP5Checkpoints(t *testing.T) {
	r := source(80)
	events, _ := anyEvents(t, 80, 50)
	l, x := kept(t, 300, events[:30])
	want(t, "Snapshot", l.Snapshot(), api.OK)
	takes(t, l, events[30:])
	want(t, "Snapshot", l.Snapshot(), api.OK)
	model := behind(t, events)
	alike(t, "behind Snapshot", l, model)
	for _, name := range []string{"ckpt-000030", "ckpt-000050"} {
		b := data(x, name)
		for range 150 {
			turned := slices.Clone(b)
			at := r.IntN(len(b)*8 - 32)
			for bit := range 32 {
				if bit == 0 || r.IntN(2) == 0 {
					turned[(at+bit)/8] ^= 1 << ((at + bit) % 8)
				}
			}
			if at < 128 { // in the first sixteen bytes one bit alone
				turned = slices.Clone(b)
				turned[at/8] ^= 1 << (at % 8)
			}
			alike(t, fmt.Sprint(name, " turned at ", at), on(t, withFile(t, x, name, turned), 300), model)
		}
	}
	l.Trim(1)
	alike(t, "behind Trim", l, model)
	l.Trim(0)
	alike(t, "behind Trim", l, model)
	alike(t, "opened anew", on(t, x, 300), model)
}

// TestP6NotSeen: between the beginning of a rebuild and its cut-over, at it and behind it no answer changes but Status; and when it comes at the latest.
func TestP6NotSeen(t *testing.T) {
	events, _ := anyEvents(t, 90, 40)
	l, x := kept(t, 300, events)
	was, files := told(l), shown(x)
	for k := 1; k < 45; k++ {
		gen, cut := k-1, 0
		for p, _ := l.Status(); p.Gen == gen; cut++ {
			p, _ = l.Rebuild(k)
			if k%10 == 3 || p.Gen > gen {
				same(t, "what is told", told(l), was)
			}
		}
		same(t, fmt.Sprint("steps of ", k), cut, (40+k-1)/k+1)
	}
	same(t, "the disk", shown(x), files)
}

// TestP7Queries: as the rows give it; and by the text that the query is printed as.
func TestP7Queries(t *testing.T) {
	for seed := range uint64(5) {
		events, _ := anyEvents(t, 100+seed, 60)
		l, _ := kept(t, 300, events)
		model := behind(t, events)
		for _, s := range questions() {
			table, at, why := l.Query(s)
			wanted, place, reason := model.Query(s)
			same(t, s, fmt.Sprint(table, at, why), fmt.Sprint(wanted, place, reason))
			q, _, parsed := grammar.Parse(s)
			if parsed != api.OK {
				continue
			}
			printed, _ := grammar.Print(q)
			again, _, reason := l.Query(printed)
			same(t, printed, fmt.Sprint(again, reason), fmt.Sprint(table, why))
		}
	}
}

// TestP8ThereAndBack: Export of a ledger, imported into an empty one; and each line of an event by itself.
func TestP8ThereAndBack(t *testing.T) {
	for seed := range uint64(8) {
		events, _ := anyEvents(t, 120+seed, 60)
		l, _ := kept(t, 300, events)
		m, _ := kept(t, 64+int(seed)*50, nil)
		n, err := m.Import(exported(t, l))
		same(t, "Import", n, 60)
		same(t, "Import", err, nil)
		alike(t, "imported", m, behind(t, events))
		same(t, "Export of it", exported(t, m), exported(t, l))
		k, _ := kept(t, 300, nil)
		for _, e := range events {
			s, _ := event.Print(e, 2)
			texts(t, k, s)
		}
		alike(t, "line by line", k, behind(t, events))
	}
}

func dated(t *testing.T, n int) string {
	t.Helper()
	s, why := day.Print(n)
	want(t, "Print", why, api.OK)
	return s
}

// TestP9LockedDays: what is told of days that are locked stays, whatever comes.
func TestP9LockedDays(t *testing.T) {
	locked := 0
	for seed := range uint64(12) {
		events, _ := anyEvents(t, 140+seed, 90)
		l, _ := kept(t, 4096, nil)
		last, was := 0, ""
		for _, e := range events {
			takes(t, l, []api.Event{e})
			if last > 0 {
				same(t, fmt.Sprintf("the days up to %d, behind %+v", last, e), upTo(t, l, last), was)
			}
			if e.Kind == api.KLock {
				last = e.Day
				was = upTo(t, l, last)
				locked++
			}
		}
	}
	if locked < 12 {
		t.Errorf("only %d locks", locked)
	}
}

// upTo: the balances at the end of days up to one, the trial balance of their rows, and what was open at them. Only accounts that have rows or claims there tell something.
func upTo(t *testing.T, l *Ledger, last int) (s string) {
	t.Helper()
	table, _, why := l.Query(fmt.Sprintf("where day <= %s by account show sum(amount)", dated(t, last)))
	want(t, "Query", why, api.OK)
	s = fmt.Sprint(table)
	accounts, _ := l.Accounts()
	for _, a := range accounts {
		rows, _ := l.Daily(a.Name, 1, last)
		if len(rows) > 0 {
			s += fmt.Sprint(rows)
		}
		for day := last - 40; day <= last; day += 8 {
			if ages, _ := l.Aged(a.Name, day); ages != (api.Ages{}) {
				open, _ := l.Open(a.Name, day)
				s += fmt.Sprint(a.Name, day, ages, open)
			}
		}
	}
	return s
}

// TestP10Ages: the five add up to what is open, which is never more than was invoiced; day by day it grows on an invoice's day alone.
func TestP10Ages(t *testing.T) {
	for seed := range uint64(6) {
		events, _ := anyEvents(t, 160+seed, 80)
		l, _ := kept(t, 4096, events)
		accounts, _ := l.Accounts()
		for _, a := range accounts {
			invoiced, days := int64(0), map[int]bool{}
			for _, e := range events {
				if e.Kind == api.KInvoice && e.Account == a.Name {
					invoiced += e.Amount
					days[e.Day] = true
				}
			}
			ahead := int64(0)
			for day := d - 5; day < d+250; day++ {
				ages, _ := l.Aged(a.Name, day)
				open, _ := l.Open(a.Name, day)
				sum, all := int64(0), int64(0)
				for _, n := range ages {
					sum += n
				}
				for _, c := range open {
					all += c.Amount
				}
				if sum != all || sum > invoiced || slices.Min(ages[:]) < 0 || sum > ahead && !days[day] {
					t.Fatalf("%s at %d: %v, open %v, of %d invoiced, %d the day ahead", a.Name, day, ages, open, invoiced, ahead)
				}
				ahead = sum
			}
		}
	}
}

// TestP11OneList: two ledgers that took the same events are alike, whatever else they met.
func TestP11OneList(t *testing.T) {
	for seed := range uint64(10) {
		events, refused := anyEvents(t, 180+seed, 60)
		r := source(200 + seed)
		one, _ := kept(t, 4096, events)
		x := newDisk(t, 60000)
		two := on(t, x, 64+r.IntN(300))
		for n, e := range events {
			for _, bad := range refused[n] {
				two.Submit(bad)
			}
			switch r.IntN(9) {
			case 0:
				two.Snapshot()
			case 1:
				two.Trim(r.IntN(2))
			case 2:
				two.Rebuild(1 + r.IntN(30))
			case 3:
				x.Crash([]int{r.IntN(9)})
				two = on(t, x, 64+r.IntN(3000))
			case 4:
				want(t, "Fuse", x.Fuse(0), api.OK)
				_, why := two.Submit(e)
				want(t, "Submit", why, api.ErrDown)
				x.Crash(nil)
				two = on(t, x, 64+r.IntN(3000))
			}
			takes(t, two, []api.Event{e})
		}
		same(t, "what is told", told(two), told(one))
	}
}

// TestP18_14Asking: calls that only ask, put in anywhere, change neither the disk nor what any call answers.
func TestP18_14Asking(t *testing.T) {
	events, refused := anyEvents(t, 220, 60)
	silent, x := kept(t, 300, nil)
	nosy, y := kept(t, 300, nil)
	r := source(221)
	for n, e := range events {
		bad := append(refused[n], api.Event{})
		k, trim := 1+r.IntN(9), r.IntN(3)
		for i, do := range []func(l *Ledger) string{
			func(l *Ledger) string { return fmt.Sprint(l.Submit(bad[0])) },
			func(l *Ledger) string { return fmt.Sprint(l.Submit(e)) },
			func(l *Ledger) string { return fmt.Sprint(l.Rebuild(k)) },
			func(l *Ledger) string { return fmt.Sprint(l.Import("lock 0001-01-01\nx")) },
			func(l *Ledger) string { return fmt.Sprint(n%7 > 0 || l.Snapshot() == api.OK) },
			func(l *Ledger) string { return fmt.Sprint(l.Trim(trim)) },
		} {
			if i%2 == n%2 {
				was, state := shown(y), status(nosy)
				once := told(nosy)
				same(t, "what is told again", told(nosy), once)
				same(t, "the disk", shown(y), was)
				same(t, "Status", status(nosy), state)
			}
			same(t, fmt.Sprint("call ", i), do(nosy), do(silent))
			same(t, "the disk", shown(y), shown(x))
		}
	}
	same(t, "what is told", told(silent), told(nosy))
}

// TestP18_15TwoSettings: the same calls on disks with room enough, with unlike segment sizes.
func TestP18_15TwoSettings(t *testing.T) {
	for seed := range uint64(4) {
		events, refused := anyEvents(t, 240+seed, 60)
		var all []*Ledger
		for _, segment := range []int{65536, 4096, 500, 120} {
			l, _ := kept(t, segment, nil)
			all = append(all, l)
		}
		r := source(250 + seed)
		for n, e := range events {
			k, trim, what := r.IntN(9), r.IntN(4)-1, r.IntN(6)
			for _, do := range []func(l *Ledger) string{
				func(l *Ledger) string { return fmt.Sprint(l.Submit(append(refused[n], api.Event{})[0])) },
				func(l *Ledger) string { return fmt.Sprint(l.Submit(e)) },
				func(l *Ledger) string { return fmt.Sprint(l.Rebuild(k)) },
				func(l *Ledger) string { return fmt.Sprint(what != 0 || l.Snapshot() == api.OK) },
				func(l *Ledger) string {
					if what != 1 {
						return ""
					}
					return fmt.Sprint(l.Trim(trim))
				},
				func(l *Ledger) string { return status(l) },
				func(l *Ledger) string {
					if what != 2 {
						return ""
					}
					return told(l)
				},
			} {
				wanted := do(all[0])
				for _, l := range all[1:] {
					same(t, "an answer", do(l), wanted)
				}
			}
		}
		for _, l := range all {
			alike(t, "in the end", l, behind(t, events))
		}
	}
}
