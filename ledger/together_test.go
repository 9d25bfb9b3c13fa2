package ledger

import (
	"errors"
	"fmt"
	"slices"
	"strings"
	"sync"
	"testing"

	"daybook/api"
	"daybook/paper"
)

// together does the same on several goroutines at one time, each with its number.
func together(n int, do func(i int)) {
	var all sync.WaitGroup
	for i := range n {
		all.Go(func() { do(i) })
	}
	all.Wait()
}

// answered: an event that was submitted, and what was answered.
type answered struct {
	e   api.Event
	n   int
	why api.Errno
}

// listed: all events, as Event tells them.
func listed(t *testing.T, l *Ledger) (events []api.Event) {
	t.Helper()
	for n := range l.Len() {
		e, why := l.Event(n + 1)
		want(t, "Event", why, api.OK)
		events = append(events, e)
	}
	return events
}

// holdTogether: those that were taken have the numbers from first on, each once, and stand there; each that was refused is refused at some place of that order.
func holdTogether(t *testing.T, l *Ledger, first int, all []answered) {
	t.Helper()
	events := listed(t, l)
	model := behind(t, events) // the books take them all in this order
	alike(t, "what is told", l, model)
	var numbers []int
	for _, a := range all {
		if a.why == api.OK {
			numbers = append(numbers, a.n)
			same(t, "Event", fmt.Sprintf("%+v", events[a.n-1]), fmt.Sprintf("%+v", a.e))
			continue
		}
		same(t, "a refused one's number", a.n, 0)
		found := false
		for n := range len(events) + 1 {
			found = found || behind(t, events[:n]).books.Check(a.e) == a.why
		}
		if !found {
			t.Errorf("%+v is refused nowhere for %d", a.e, int(a.why))
		}
	}
	slices.Sort(numbers)
	for i, n := range numbers {
		same(t, "the numbers", n, first+i)
	}
	same(t, "Len", l.Len(), first-1+len(numbers))
}

// TestP18_17Submits: events with unlike keys from several goroutines.
func TestP18_17Submits(t *testing.T) {
	for _, segment := range []int{100, 4096} {
		l, x := kept(t, segment, first())
		var all [8][]answered
		together(8, func(i int) {
			for k := range 12 {
				key := fmt.Sprintf("k%d-%d", i, k)
				e := post(d+k, key, line(bank, int64(i+1)), line(ann, -int64(i+1)))
				switch k % 4 {
				case 1:
					e = invoice(d+k, key, ann, work, d+k+i, 7)
				case 2:
					e = post(d+k, key, line(bank, 1), line(ann, -2)) // never taken
				case 3:
					e = lock(d - 100 + i + k) // taken, if no later one was
				}
				n, why := l.Submit(e)
				all[i] = append(all[i], answered{e, n, why})
			}
		})
		list := slices.Concat(all[:]...)
		holdTogether(t, l, 7, list)
		taken := map[int]int{}
		for _, a := range list {
			if a.why == api.OK {
				taken[a.e.Kind]++
			}
		}
		same(t, "postings", taken[api.KPost], 24)
		same(t, "invoices", taken[api.KInvoice], 24)
		if taken[api.KLock] == 0 {
			t.Error("no lock was taken")
		}
		same(t, "opened anew", told(on(t, x, segment)), told(l))
	}
}

// TestP18_17Scarce: what only some can have goes to just so many: what is left of a payment, a key, a name.
func TestP18_17Scarce(t *testing.T) {
	l, _ := kept(t, 4096, append(first(), invoice(d, "i1", ann, work, d, 100), pay(d, "p1", ann, bank, 100)))
	var all [40][]answered
	together(40, func(i int) {
		for _, e := range []api.Event{allot(d, fmt.Sprint("a", i), "p1", "i1", 3), post(d, "one", line(bank, int64(i+1)), line(ann, -int64(i+1))), opens(d, "New", 1+i%5)} {
			n, why := l.Submit(e)
			all[i] = append(all[i], answered{e, n, why})
		}
	})
	list := slices.Concat(all[:]...)
	holdTogether(t, l, 9, list)
	counted := map[string]int{}
	for _, a := range list {
		counted[fmt.Sprint(a.e.Kind, " ", int(a.why))]++
	}
	same(t, "the answers", fmt.Sprint(counted), fmt.Sprint(map[string]int{
		fmt.Sprint(api.KAllot, " 0"): 33, fmt.Sprint(api.KAllot, " ", int(api.ErrOver)): 7,
		fmt.Sprint(api.KPost, " 0"): 1, fmt.Sprint(api.KPost, " ", int(api.ErrTwice)): 39,
		fmt.Sprint(api.KOpen, " 0"): 1, fmt.Sprint(api.KOpen, " ", int(api.ErrExists)): 39,
	}))
}

// TestP18_13Whole: a journal that is imported stands in one piece, whoever else submits.
func TestP18_13Whole(t *testing.T) {
	l, _ := kept(t, 4096, first())
	together(10, func(i int) {
		var events []api.Event
		for k := range 8 {
			events = append(events, post(d, fmt.Sprintf("k%d-%d", i, k), line(bank, 1), line(ann, -1)))
		}
		if i%2 == 0 {
			s, _ := paper.Print(events, 2)
			if n, err := l.Import(s); n != 8 || err != nil {
				t.Errorf("Import: %d, %v", n, err)
			}
			return
		}
		for _, e := range events {
			l.Submit(e)
		}
	})
	events := listed(t, l)
	same(t, "Len", len(events), 86)
	for n, e := range events {
		var i, k int
		if _, err := fmt.Sscanf(e.Key, "k%d-%d", &i, &k); err == nil && i%2 == 0 && k > 0 {
			same(t, "the one ahead of "+e.Key, events[n-1].Key, fmt.Sprintf("k%d-%d", i, k-1))
		}
	}
	alike(t, "what is told", l, behind(t, events))
}

// TestP18_13Calls: all calls at one time. Each answer is one that the events up to some number give.
func TestP18_13Calls(t *testing.T) {
	l, x := kept(t, 300, story())
	together(10, func(i int) {
		for k := range 15 {
			switch i {
			case 0, 1:
				key := fmt.Sprintf("k%d-%d", i, k)
				if _, why := l.Submit(post(d+90, key, line(bank, 5), line("Costs", -5))); why != api.OK {
					t.Errorf("Submit: error %d", int(why))
				}
			case 2:
				if _, why := l.Text(fmt.Sprintf("pay 2024-04-01 t%d Assets:Cust Assets:Bank 0.01", k)); why != api.OK {
					t.Errorf("Text: error %d", int(why))
				}
			case 3:
				l.Rebuild(1 + k)
				l.Status()
			case 4:
				if why := l.Snapshot(); why != api.OK {
					t.Errorf("Snapshot: error %d", int(why))
				}
				l.Trim(k % 2)
			default:
				askOnce(t, l)
			}
		}
	})
	events := listed(t, l)
	same(t, "Len", len(events), 27+45)
	alike(t, "what is told", l, behind(t, events))
	alike(t, "opened anew", on(t, x, 64), behind(t, events))
}

// askOnce: answers that hold together behind any event.
func askOnce(t *testing.T, l *Ledger) {
	trial, why := l.Trial()
	sum := int64(0)
	for _, c := range trial {
		sum += c.Debit - c.Credit
	}
	if sum != 0 || why != api.OK {
		t.Errorf("Trial: %v, error %d", trial, int(why))
	}
	n := l.Len()
	s, why := l.Export()
	if lines := strings.Count(s, "\n"); lines < n || why != api.OK {
		t.Errorf("Export: %d lines, error %d", lines, int(why))
	}
	if _, why := l.Event(n); why != api.OK {
		t.Errorf("Event: error %d", int(why))
	}
	for _, q := range []string{"show sum(amount)", "by kind show sum(amount)"} {
		table, _, why := l.Query(q)
		for _, row := range table.Rows {
			if row[len(row)-1].Num != 0 {
				t.Errorf("%s: %v", q, row)
			}
		}
		if why != api.OK {
			t.Errorf("%s: error %d", q, int(why))
		}
	}
	l.Rollup("Assets")
	l.Daily(bank, d, d+99)
	l.Aged(ann, d+50)
	l.Open(ann, d+50)
	l.Accounts()
	l.Left("i1")
	if _, err := l.Import("no journal"); !errors.Is(err, api.ErrPaper) {
		t.Errorf("Import: %v", err)
	}
}

// TestP18_13Down: the power fails while several submit: those that were answered are there, and perhaps one more.
func TestP18_13Down(t *testing.T) {
	for fuse := range 30 {
		l, x := kept(t, 100, first())
		want(t, "Fuse", x.Fuse(fuse), api.OK)
		var all [6][]answered
		together(6, func(i int) {
			for k := range 10 {
				e := post(d+k, fmt.Sprintf("k%d-%d", i, k), line(bank, 1), line(ann, -1))
				n, why := l.Submit(e)
				all[i] = append(all[i], answered{e, n, why})
				l.Trial()
			}
		})
		taken := 0
		for _, a := range slices.Concat(all[:]...) {
			if a.why == api.OK {
				taken++
			} else {
				want(t, "Submit", a.why, api.ErrDown)
			}
		}
		same(t, "Len", l.Len(), 6+taken)
		isDown(t, l, x)
		x.Crash([]int{fuse * 3})
		m := on(t, x, 64)
		if n := m.Len(); n != 6+taken && n != 7+taken {
			t.Errorf("%d events, %d were answered", n, 6+taken)
		}
		alike(t, "behind the crash", m, behind(t, listed(t, m)))
		for _, a := range slices.Concat(all[:]...) {
			if a.why == api.OK {
				e, _ := m.Event(a.n)
				same(t, "Event", e.Key, a.e.Key)
			}
		}
	}
}
