package rebuild

import (
	"cmp"
	"maps"
	"math"
	"math/rand/v2"
	"reflect"
	"slices"
	"strconv"
	"testing"

	"daybook/api"
	"daybook/book"
	"daybook/disk"
	"daybook/event"
	"daybook/store"
)

const (
	greatest = math.MaxInt
	least    = math.MinInt

	d    = 738886 // 2024-01-01
	bank = "Assets:Bank"
	cust = "Assets:Cust"
	ann  = "Assets:Cust:Ann"
	work = "Income:Work"
)

// source gives the same numbers in every run.
func source(n uint64) *rand.Rand { return rand.New(rand.NewPCG(12, n)) }

func open(day int, name string, typ int) api.Event {
	return api.Event{Kind: api.KOpen, Day: day, Account: name, Type: typ}
}

func shut(day int, name string) api.Event {
	return api.Event{Kind: api.KClose, Day: day, Account: name}
}

func line(name string, n int64) api.Line { return api.Line{Account: name, Amount: n} }

func post(day int, key string, l ...api.Line) api.Event {
	return api.Event{Kind: api.KPost, Day: day, Key: key, Lines: l}
}

func void(day int, key, ref string) api.Event {
	return api.Event{Kind: api.KVoid, Day: day, Key: key, Ref: ref}
}

func invoice(day int, key, account, other string, due int, n int64) api.Event {
	return api.Event{Kind: api.KInvoice, Day: day, Key: key, Account: account, Other: other, Due: due, Amount: n}
}

func pay(day int, key, account, other string, n int64) api.Event {
	return api.Event{Kind: api.KPay, Day: day, Key: key, Account: account, Other: other, Amount: n}
}

func allot(day int, key, ref, ref2 string, n int64) api.Event {
	return api.Event{Kind: api.KAllot, Day: day, Key: key, Ref: ref, Ref2: ref2, Amount: n}
}

func lock(day int) api.Event { return api.Event{Kind: api.KLock, Day: day} }

// opened: accounts of an asset and an income, all opened on day d.
func opened() []api.Event {
	return []api.Event{open(d, "Assets", api.Asset), open(d, bank, 0), open(d, cust, 0), open(d, ann, 0), open(d, "Income", api.Income), open(d, work, 0)}
}

// story: events of every kind, their days back and forth, that books take in this order.
func story() []api.Event {
	noted := post(d+5, "x1", api.Line{Account: "Costs", Amount: 500, Tag: "flat"}, line(bank, -500))
	noted.Memo = "rent"
	return append(opened(),
		open(d+2, "Costs", api.Expense),
		invoice(d+10, "i1", ann, work, d+40, 10000),
		noted,
		pay(d+20, "p1", ann, bank, 6000),
		allot(d+21, "a1", "p1", "i1", 4000),
		void(d+6, "v1", "x1"),
		invoice(d+7, "i2", cust, work, d+8, 70),
		allot(d+20, "a2", "p1", "i1", 1500),
		open(d+1, "Old", api.Equity),
		shut(d+3, "Old"),
		lock(d+4),
		post(d+30, "x2", line(bank, 7), line("Costs", -3), line(work, -4)),
		pay(d+50, "p2", cust, bank, 70),
		allot(d+60, "a3", "p2", "i2", 70),
		post(d+60, "x3", line(bank, -7), line("Costs", 7)),
		lock(d+45),
		open(d+46, "Gone", api.Liability),
		post(d+47, "x4", line("Gone", -11), line(bank, 11)),
		void(d+47, "v4", "x4"),
		invoice(d+59, "i3", ann, work, d+59, 1),
		shut(d+80, "Gone"),
	)
}

// mostEvents: as many as books take: accounts, and behind them postings of one day each, on and on.
func mostEvents() []api.Event {
	l := opened()
	for n := len(l); n < api.MaxEvents; n++ {
		l = append(l, post(d+n%97, "k"+strconv.Itoa(n), line(bank, int64(n)), line(ann, -int64(n))))
	}
	return l
}

// plainSnap: of a set behind events that are all taken: worked out of the whole list at one time.
func plainSnap(t *testing.T, events []api.Event) api.Snap {
	t.Helper()
	books := book.New()
	s := api.Snap{AsOf: 1}
	for _, e := range events {
		if _, why := books.Apply(e); why != api.OK {
			t.Fatalf("the books refuse %+v: %d", e, why)
		}
		s.AsOf = max(s.AsOf, e.Day)
		if e.Kind == api.KInvoice {
			s.Claims = append(s.Claims, api.Claim{Key: e.Key, Account: e.Account, Day: e.Day, Due: e.Due, Amount: e.Amount})
		}
		if e.Kind == api.KAllot {
			s.Allots = append(s.Allots, api.Allot{Pay: e.Ref, Invoice: e.Ref2, Day: e.Day, Amount: e.Amount})
		}
	}
	s.Base = books.Base()
	s.Balances, s.Days = plainBalances(s.Base.Rows), plainDays(s.Base.Rows)
	return s
}

func plainBalances(rows []api.Posting) (l []api.Balance) {
	own := map[string]int64{}
	for _, row := range rows {
		own[row.Account] += row.Amount
	}
	all := map[string]*api.Balance{}
	for name, n := range own {
		for at := 0; n != 0 && at <= len(name); at++ { // every beginning of its parts
			if at < len(name) && name[at] != ':' {
				continue
			}
			if all[name[:at]] == nil {
				all[name[:at]] = &api.Balance{Account: name[:at], Own: own[name[:at]]}
			}
			all[name[:at]].Rollup += n
		}
	}
	for _, name := range slices.Sorted(maps.Keys(all)) {
		l = append(l, *all[name])
	}
	return l
}

func plainDays(rows []api.Posting) (l []api.DayRow) {
	change := map[api.DayRow]int64{} // by account and day
	for _, row := range rows {
		change[api.DayRow{Account: row.Account, Day: row.Day}] += row.Amount
	}
	for at, n := range change {
		if n != 0 {
			at.Change = n
			l = append(l, at)
		}
	}
	slices.SortFunc(l, func(a, b api.DayRow) int {
		return cmp.Or(cmp.Compare(a.Account, b.Account), cmp.Compare(a.Day, b.Day))
	})
	for i := range l {
		l[i].Balance = l[i].Change
		if i > 0 && l[i-1].Account == l[i].Account {
			l[i].Balance += l[i-1].Balance
		}
	}
	return l
}

// plainAges: of an account's claims at a day.
func plainAges(s api.Snap, account string, day int) (ages api.Ages) {
	for _, c := range s.Claims {
		if c.Account != account || c.Day > day {
			continue
		}
		for _, a := range s.Allots {
			if a.Invoice == c.Key && a.Day <= day {
				c.Amount -= a.Amount
			}
		}
		age := 0
		for _, from := range []int{1, 31, 61, 91} {
			if day-c.Due >= from {
				age++
			}
		}
		ages[age] += c.Amount
	}
	return ages
}

// alike: the same, where nil and empty lists are.
func alike(a, b any) bool { return alikeValues(reflect.ValueOf(a), reflect.ValueOf(b)) }

func alikeValues(a, b reflect.Value) bool {
	switch a.Kind() {
	case reflect.Slice:
		if a.Len() != b.Len() {
			return false
		}
		for i := range a.Len() {
			if !alikeValues(a.Index(i), b.Index(i)) {
				return false
			}
		}
		return true
	case reflect.Struct:
		for i := range a.NumField() {
			if !alikeValues(a.Field(i), b.Field(i)) {
				return false
			}
		}
		return true
	}
	return a.Equal(b)
}

// has: the set's Snap is this one, and its parts answer what follows from it.
func has(t *testing.T, s *Set, want api.Snap) {
	t.Helper()
	if s == nil {
		t.Fatal("there is no set")
	}
	if got := s.Snap(); !alike(got, want) {
		t.Fatalf("the Snap is\n%+v, want\n%+v", got, want)
	}
	if !alike(s.Book().Base(), want.Base) || s.Book().Len() != want.Base.Events || s.Book().Lock() != want.Base.Lock {
		t.Errorf("Book(): %+v, want %+v", s.Book().Base(), want.Base)
	}
	if !alike(s.Sums().State(), want.Balances) || !alike(s.Daily().State(), want.Days) {
		t.Errorf("Sums(): %+v, Daily(): %+v", s.Sums().State(), s.Daily().State())
	}
	if !alike(s.Aged().Claims(), want.Claims) || !alike(s.Aged().Allots(), want.Allots) || s.Aged().AsOf() != want.AsOf {
		t.Errorf("Aged(): %+v, %+v, %d", s.Aged().Claims(), s.Aged().Allots(), s.Aged().AsOf())
	}
	for _, a := range want.Base.Accounts {
		if got := s.Aged().Now(a.Name); got != plainAges(want, a.Name, want.AsOf) {
			t.Errorf("Aged().Now(%s): %v, want %v", a.Name, got, plainAges(want, a.Name, want.AsOf))
		}
		for _, day := range []int{want.AsOf - 1, min(want.AsOf+31, api.MaxDay), d + 9, d + 20, d + 200} {
			if got := s.Aged().At(a.Name, day); got != plainAges(want, a.Name, day) {
				t.Errorf("Aged().At(%s, %d): %v, want %v", a.Name, day, got, plainAges(want, a.Name, day))
			}
		}
	}
}

// both: a set, and the events that it has taken.
type both struct {
	t     *testing.T
	s     *Set
	taken []api.Event
}

// tell: an event to the set, which must answer what the books do, and be what all events give.
func (b *both) tell(e api.Event) api.Errno {
	b.t.Helper()
	books := book.New()
	for _, x := range b.taken {
		books.Apply(x)
	}
	want := books.Check(e)
	if got := b.s.Apply(e); got != want {
		b.t.Fatalf("Apply(%+v): %d, want %d", e, got, want)
	}
	if want == api.OK {
		b.taken = append(b.taken, e)
	}
	has(b.t, b.s, plainSnap(b.t, b.taken))
	return want
}

// behind: a set that was told these events, all of which it takes.
func behind(t *testing.T, events []api.Event) *Set {
	t.Helper()
	s := New()
	for _, e := range events {
		if why := s.Apply(e); why != api.OK {
			t.Fatalf("Apply(%+v): %d", e, why)
		}
	}
	return s
}

func snapBehind(t *testing.T, events []api.Event) api.Snap {
	t.Helper()
	return behind(t, events).Snap()
}

// from: the set of a Snap that is taken.
func from(t *testing.T, x api.Snap) *Set {
	t.Helper()
	s, why := From(x)
	if why != api.OK || s == nil {
		t.Fatalf("From: %v, %d; the Snap is %+v", s, why, x)
	}
	return s
}

// logOf: a log with the records of these events, in segments of a size, and its disk.
func logOf(t *testing.T, segment int, events []api.Event) (*store.Log, *disk.Disk) {
	t.Helper()
	disk, _ := disk.New(api.MaxDisk)
	l, why := store.Open(disk, segment)
	if why != api.OK {
		t.Fatalf("the log: %d", why)
	}
	for _, e := range events {
		add(t, l, e)
	}
	return l, disk
}

func add(t *testing.T, l *store.Log, e api.Event) {
	t.Helper()
	b, why := event.Encode(e)
	if why != api.OK {
		t.Fatalf("%+v is no event: %d", e, why)
	}
	addBytes(t, l, b)
}

func addBytes(t *testing.T, l *store.Log, b []byte) {
	t.Helper()
	if why := l.Append(b); why != api.OK {
		t.Fatalf("the log's Append: %d", why)
	}
}
