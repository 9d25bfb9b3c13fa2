package answer

import (
	"math/rand/v2"
	"strconv"
	"testing"

	"daybook/api"
	"daybook/disk"
	"daybook/event"
	"daybook/rebuild"
	"daybook/store"
)

const (
	bank = "Assets:Bank"
	cust = "Assets:Cust"
	ann  = "Assets:Cust:Ann"
	work = "Income:Work"
)

func open(day int, name string, typ int) api.Event {
	return api.Event{Kind: api.KOpen, Day: day, Account: name, Type: typ}
}

func shut(day int, name string) api.Event {
	return api.Event{Kind: api.KClose, Day: day, Account: name}
}

func leg(name string, n int64) api.Line { return api.Line{Account: name, Amount: n} }

func post(day int, key string, l ...api.Line) api.Event {
	return api.Event{Kind: api.KPost, Day: day, Key: key, Lines: l}
}

func void(day int, key, ref string) api.Event {
	return api.Event{Kind: api.KVoid, Day: day, Key: key, Ref: ref}
}

func invoice(day int, key, account, other string, due int, n int64) api.Event {
	return api.Event{Kind: api.KInvoice, Day: day, Key: key, Account: account, Other: other, Due: due, Amount: n}
}

func pay(day int, key, account, other string, n int64) api.Event {
	return api.Event{Kind: api.KPay, Day: day, Key: key, Account: account, Other: other, Amount: n}
}

func allot(day int, key, ref, ref2 string, n int64) api.Event {
	return api.Event{Kind: api.KAllot, Day: day, Key: key, Ref: ref, Ref2: ref2, Amount: n}
}

func lock(day int) api.Event { return api.Event{Kind: api.KLock, Day: day} }

// opened: accounts of an asset and an income, all opened on day d.
func opened() []api.Event {
	return []api.Event{open(d, "Assets", api.Asset), open(d, bank, 0), open(d, cust, 0), open(d, ann, 0), open(d, "Income", api.Income), open(d, work, 0)}
}

// story: events of every kind, their days back and forth, that books take in this order.
func story() []api.Event {
	noted := post(d+5, "x1", api.Line{Account: "Costs", Amount: 500, Tag: "flat"}, leg(bank, -500))
	noted.Memo = "rent"
	return append(opened(),
		open(d+2, "Costs", api.Expense),
		invoice(d+10, "i1", ann, work, d+40, 10000),
		noted,
		pay(d+20, "p1", ann, bank, 6000),
		allot(d+21, "a1", "p1", "i1", 4000),
		void(d+6, "v1", "x1"),
		invoice(d+7, "i2", cust, work, d+8, 70),
		open(d+1, "Old", api.Equity),
		shut(d+3, "Old"),
		lock(d+4),
		post(d+30, "x2", leg(bank, 7), leg("Costs", -3), leg(work, -4)),
		pay(d+50, "p2", cust, bank, 70),
		allot(d+60, "a3", "p2", "i2", 70),
		post(d+60, "x3", leg(bank, -7), leg("Costs", 7), leg("Assets", 9), leg(bank, -9)),
		open(d+46, "Gone", api.Liability),
		post(d+47, "x4", leg("Gone", -11), leg(bank, 11)),
		void(d+47, "v4", "x4"),
		shut(d+80, "Gone"),
	)
}

// behind: a set that was told these events, all of which it takes.
func behind(t *testing.T, events []api.Event) *rebuild.Set {
	t.Helper()
	s := rebuild.New()
	for _, e := range events {
		if why := s.Apply(e); why != api.OK {
			t.Fatalf("Apply(%+v): %d", e, int(why))
		}
	}
	return s
}

// logOf: a log with the records of these events.
func logOf(t *testing.T, events []api.Event) *store.Log {
	t.Helper()
	disk, _ := disk.New(api.MaxDisk)
	l, why := store.Open(disk, 4096)
	for _, e := range events {
		b, bad := event.Encode(e)
		if bad != api.OK || l.Append(b) != api.OK {
			t.Fatalf("%+v is not written", e)
		}
	}
	if why != api.OK {
		t.Fatalf("the log: %d", int(why))
	}
	return l
}

// waysTo: sets behind these events, each of which came to be in another way.
func waysTo(t *testing.T, events []api.Event, cut int) []*rebuild.Set {
	t.Helper()
	whole := behind(t, events)
	based, why := rebuild.From(whole.Snap())
	if why != api.OK {
		t.Fatalf("From: %d", int(why))
	}
	log := logOf(t, events)
	replayed := rebuild.New()
	resumed, _ := rebuild.From(behind(t, events[:cut]).Snap())
	if replayed.Replay(log, 0) != api.OK || resumed.Replay(log, cut) != api.OK {
		t.Fatal("Replay")
	}
	job := rebuild.Begin(log)
	for made := false; !made; {
		if made, why = job.Step(1 + cut); why != api.OK {
			t.Fatalf("Step: %d", int(why))
		}
	}
	return []*rebuild.Set{whole, based, replayed, resumed, job.Set()}
}

// anyAmount: mostly small.
func anyAmount(r *rand.Rand) int64 {
	if r.IntN(30) == 0 {
		return 1 + r.Int64()>>r.IntN(6)
	}
	return 1 + r.Int64N(50)
}

// anyEvent: of any kind; books with such a base take about every second one.
func anyEvent(r *rand.Rand, b api.Base) api.Event {
	day, key := max(b.Lock, d)+r.IntN(60)-3, "k"+strconv.Itoa(r.IntN(4000))
	name := func() string { return pick(r, bank, cust, ann, ann, "Costs", work, "Other") }
	n := anyAmount(r)
	switch r.IntN(16) {
	case 0:
		return open(day, pick(r, "Costs", "Other", "Assets:New", "Other:Kid"), pick(r, 0, api.Expense, api.Liability))
	case 1:
		return shut(day+20, pick(r, "Costs", "Other", "Assets:New", "Other:Kid", cust, work))
	case 2:
		return lock(b.Lock + r.IntN(5))
	case 3, 4:
		if len(b.Entries) > 0 {
			return void(day+10, key, b.Entries[r.IntN(len(b.Entries))].Key)
		}
	case 5, 6, 7:
		return invoice(day, key, pick(r, bank, cust, ann), work, day+r.IntN(50), n)
	case 8, 9:
		return pay(day, key, pick(r, bank, cust, ann), pick(r, bank, "Assets"), n)
	}
	e := post(day, key, leg(name(), n), leg(name(), -n/2), leg(name(), n/2-n))
	if n == 1 {
		e.Lines = []api.Line{leg(name(), n), leg(name(), -n)}
	}
	e.Memo, e.Lines[0].Tag = pick(r, "", "rent", "a b"), pick(r, "", "flat", "car")
	return e
}

// anyEvents: events that books take, in this order.
func anyEvents(r *rand.Rand, tries int) []api.Event {
	events := opened()
	s := rebuild.New()
	for _, e := range events {
		s.Apply(e)
	}
	for range tries {
		if e := anyEvent(r, s.Book().Base()); s.Apply(e) == api.OK {
			events = append(events, e)
		}
	}
	return events
}
