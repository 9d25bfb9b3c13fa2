package book

import (
	"slices"
	"strconv"
	"testing"

	"daybook/api"
)

const (
	late = "Assets:Late"
	gone = "Assets:Gone"
	work = "Income:Work"
)

// busy: books with accounts of several types and days, open and closed; postings that are voided, that are not, and that stand on a closed account; claims with and without something left.
func busy(t *testing.T) *both {
	t.Helper()
	x := toldBooks(t).take(
		open(20, late), open(10, gone), open(10, gone+":Old"), open(15, work), open(10, "Debts", api.Liability), open(20, "Late", api.Income), open(10, "Gone", api.Income), open(10, "Empty", api.Asset), open(16, "Empty:Kid"),
		post(12, "x", line(bank, 5, "t"), line(cust, -5)), post(12, "y", line(bank, 7), line("Debts", -7)), void(14, "yv", "y"),
		post(12, "z", line(gone, 9), line(bank, -9)), post(12, "z2", line(gone, 3), line(gone, -3)), void(12, "z2v", "z2"), post(12, "z3", line(gone, -9), line(bank, 9)),
		invoice(12, "i", cust, "Income", 42, 1000), invoice(14, "j", cust, "Income", 14, 50), invoice(12, "ib", bank, "Income", 42, 30),
		pay(12, "p", cust, bank, 600), pay(14, "q", cust, bank, 40), pay(12, "pb", bank, "Assets", 10), allot(14, "a", "p", "i", 600),
		invoice(12, "ig", gone, "Income", 12, 4), pay(12, "pg", gone, bank, 4), allot(12, "ag", "pg", "ig", 4),
		post(18, "g", line("Gone", 1), line("Gone", -1)), shut(10, gone+":Old"), shut(14, gone), shut(18, "Gone"),
	)
	alike(t, x.b, x.m)
	return x
}

// scenes: the busy books, and such as are full in one way or in several.
func scenes(t *testing.T) (l []*both) {
	for _, locked := range []int{0, 11, 13, 30} {
		for full := range 8 {
			x := busy(t)
			if full&1 > 0 {
				x.take(post(16, "most", line(bank, (api.MaxAmount-x.b.Turnover())/2), line("Empty", -(api.MaxAmount-x.b.Turnover())/2)))
			}
			for i := 0; full&2 > 0 && len(x.m.Accounts) < api.MaxAccounts; i++ {
				x.take(open(10, "N"+strconv.Itoa(i), api.Expense))
			}
			if locked > 0 {
				x.take(lock(locked))
			}
			if full&4 > 0 {
				base := x.b.Base()
				base.Events = api.MaxEvents
				x = made(t, base)
			}
			l = append(l, x)
		}
	}
	return l
}

func someDays() []int { return []int{0, 9, 10, 11, 12, 13, 14, 15, 18, 19, 20, 30, 31} }

func someNames() []string {
	return []string{"Assets", bank, cust, late, gone, "Income", work, "Debts", "Late", "Gone", "Empty", "Empty:Kid", "New", "a"}
}

// someEvents: events of each kind, with all that may be wrong with them, together and apart.
func someEvents() (l []api.Event) {
	add := func(e api.Event) { l = append(l, e) }
	for _, day := range someDays() {
		add(lock(day))
		add(api.Event{Kind: api.KLock, Day: day, Key: "x"})
		for _, name := range append(someNames(), "New:Kid", late+":Kid", gone+":Kid", gone+":Old", "Empty:New") {
			add(open(day, name))
			add(open(day, name, api.Income))
			add(api.Event{Kind: api.KOpen, Day: day, Account: name, Key: "x"})
			add(shut(day, name))
			add(api.Event{Kind: api.KClose, Day: day, Account: name, Key: "x"})
		}
		for _, key := range []string{"k", "x", "?"} {
			for _, ref := range []string{"x", "y", "z", "z2", "z3", "i", "p", "yv", "most", "nobody", "?"} {
				add(void(day, key, ref))
			}
			for _, from := range []string{"p", "q", "pb", "i", "nobody"} {
				for _, to := range []string{"i", "j", "ib", "p", "x"} {
					for _, amount := range []int64{0, 1, 10, 11, 600} {
						add(allot(day, key, from, to, amount))
					}
				}
			}
		}
	}
	return append(append(l, somePosts()...), someClaims()...)
}

func somePosts() (l []api.Event) {
	for _, day := range []int{0, 9, 12, 13, 15, 20, 31} {
		for _, key := range []string{"k", "x", "?"} {
			for i, name := range someNames() {
				for j := range 3 {
					other := someNames()[(i*5+j*4)%len(someNames())]
					l = append(l, post(day, key, line(name, 5), line(other, -5)), post(day, key, line(name, 5), line(other, -4)), post(day, key, line(bank, 1), line(name, 1), line(other, -2)))
					l = append(l, post(day, key, line(name, api.MaxAmount), line(other, -api.MaxAmount)), post(day, key, line(name, api.MaxAmount), line(other, api.MaxAmount)))
				}
			}
			l = append(l, post(day, key), post(day, key, line(bank, 1)), post(day, key, line(gone, 1), line("New", -1)))
		}
	}
	return l
}

func someClaims() (l []api.Event) {
	for _, day := range []int{0, 12, 15, 31} {
		for _, key := range []string{"k", "x", "?"} {
			for _, name := range someNames() {
				for _, other := range someNames() {
					for _, amount := range []int64{1, api.MaxAmount} {
						l = append(l, invoice(day, key, name, other, 40, amount), pay(day, key, name, other, amount))
					}
				}
				l = append(l, invoice(day, key, name, "Income", 11, 1), invoice(day, key, name, "Income", 40, 0), pay(day, key, name, bank, -1))
			}
		}
	}
	return l
}

// TestP7_2FirstReason: each reason is met, at each kind, with each one behind it that can be.
func TestP7_2FirstReason(t *testing.T) {
	met := map[[3]int]bool{}
	events := someEvents()
	for _, x := range scenes(t) {
		before := x.b.Base()
		for _, e := range events {
			l := x.m.reasons(e)
			if got := x.b.Check(e); got != append(l, api.OK)[0] {
				t.Fatalf("Check(%+v): %d, want %v; %+v", e, got, l, x.m.Base)
			}
			for _, why := range l {
				met[[3]int{e.Kind, int(l[0]), int(why)}] = true
			}
			if len(l) == 0 {
				met[[3]int{e.Kind, 0, 0}] = true
				continue
			}
			if rows, why := x.b.Apply(e); why != l[0] || len(rows) > 0 {
				t.Fatalf("Apply(%+v): %v, %d, want %d", e, rows, why, l[0])
			}
		}
		if !same(x.b.Base(), before) {
			t.Fatal("refused events have changed the books")
		}
	}
	for kind, order := range reasonsByKind() {
		for i, first := range order {
			for _, why := range order[i:] {
				can := !slices.Contains(impossible(kind), [2]api.Errno{first, why})
				if is := met[[3]int{kind, int(first), int(why)}]; can != is {
					t.Errorf("kind %d, %d with %d behind it: can be %v, was met %v", kind, first, why, can, is)
				}
			}
		}
		if !met[[3]int{kind, 0, 0}] {
			t.Errorf("kind %d: none was taken", kind)
		}
	}
	mayNot := []api.Errno{api.ErrUnknown, api.ErrClosed, api.ErrEarly}
	for _, kind := range []int{api.KPost, api.KInvoice, api.KPay} { // of the first account one, of the next another
		for _, first := range mayNot {
			for _, why := range mayNot {
				if !met[[3]int{kind, int(first), int(why)}] {
					t.Errorf("kind %d, %d with %d behind it was not met", kind, first, why)
				}
			}
		}
	}
}

// reasonsByKind: what each kind may be refused for, in the document's order.
func reasonsByKind() map[int][]api.Errno {
	all := func(l ...api.Errno) []api.Errno {
		return append([]api.Errno{api.ErrEvent, api.ErrMany, api.ErrTwice, api.ErrLocked}, l...)
	}
	return map[int][]api.Errno{
		api.KOpen:    all(api.ErrExists, api.ErrUnknown, api.ErrClosed, api.ErrEarly),
		api.KClose:   all(api.ErrUnknown, api.ErrClosed, api.ErrUse, api.ErrEarly),
		api.KPost:    all(api.ErrUnknown, api.ErrClosed, api.ErrEarly, api.ErrBalance, api.ErrOverflow),
		api.KVoid:    all(api.ErrRef, api.ErrVoided, api.ErrEarly, api.ErrClosed, api.ErrOverflow),
		api.KInvoice: all(api.ErrUnknown, api.ErrClosed, api.ErrEarly, api.ErrType, api.ErrOverflow),
		api.KPay:     all(api.ErrUnknown, api.ErrClosed, api.ErrEarly, api.ErrType, api.ErrOverflow),
		api.KAllot:   all(api.ErrRef, api.ErrMix, api.ErrEarly, api.ErrOver),
		api.KLock:    {api.ErrEvent, api.ErrMany, api.ErrTwice, api.ErrEarly},
	}
}

// impossible: pairs of reasons of which the first is never the answer with the second behind it.
func impossible(kind int) (l [][2]api.Errno) {
	add := func(first api.Errno, behind ...api.Errno) {
		for _, why := range behind {
			l = append(l, [2]api.Errno{first, why})
		}
	}
	if kind == api.KOpen || kind == api.KClose || kind == api.KLock { // with a Key it is not valid
		add(api.ErrMany, api.ErrTwice)
		add(api.ErrTwice, reasonsByKind()[kind]...)
	}
	switch kind {
	case api.KOpen: // what was opened has a parent, and what is not there is not closed
		add(api.ErrExists, api.ErrUnknown)
		add(api.ErrUnknown, api.ErrClosed, api.ErrEarly)
	case api.KClose: // what is closed is not in use
		add(api.ErrUnknown, api.ErrClosed, api.ErrUse, api.ErrEarly)
		add(api.ErrClosed, api.ErrUse)
	case api.KVoid: // a posting that is not there has no lines
		add(api.ErrRef, api.ErrVoided, api.ErrEarly, api.ErrClosed, api.ErrOverflow)
	case api.KAllot: // there are not both accounts
		add(api.ErrRef, api.ErrMix)
	}
	return l
}

// TestP7_2Hundred: the accounts' number is looked at behind ErrExists and ahead of the parent.
func TestP7_2Hundred(t *testing.T) {
	x := busy(t)
	for i := 0; len(x.m.Accounts) < api.MaxAccounts-1; i++ {
		x.take(open(10, "N"+strconv.Itoa(i), 1+i%5))
	}
	less := made(t, x.b.Base())
	less.refuse(api.ErrUnknown, open(31, "New:Kid"))
	less.refuse(api.ErrClosed, open(31, gone+":Kid"))
	less.refuse(api.ErrEarly, open(19, late+":Kid"))
	x.take(open(31, "New", api.Equity))
	for _, e := range []api.Event{open(31, "Zzz", api.Asset), open(31, bank+":New"), open(31, "Nobody:Kid"), open(31, gone+":Kid"), open(19, late+":Kid")} {
		x.refuse(api.ErrMany, e)
	}
	for _, e := range []api.Event{open(31, "New", api.Asset), open(31, gone), open(9, bank), open(31, gone+":Old")} {
		x.refuse(api.ErrExists, e)
	}
	x.take(shut(31, "New")) // which makes no room
	x.refuse(api.ErrMany, open(31, "Zzz", api.Asset))
}
