package book

import (
	"slices"
	"strconv"
	"testing"

	"daybook/api"
)

// TestP7_1Zero: books that nobody made are those behind no events.
func TestP7_1Zero(t *testing.T) {
	none := []*Book{New(), {}, made(t, api.Base{}).b, made(t, api.Base{Keys: []string{}, Accounts: []api.Account{}, Rows: []api.Posting{}, Entries: []api.Entry{}, Invoices: []api.Claim{}, Payments: []api.Claim{}, Allots: []api.Allot{}}).b}
	for _, b := range none {
		alike(t, b, &model{})
		if _, why := b.Apply(shut(10, "A")); why != api.ErrUnknown {
			t.Errorf("Apply: %d", why)
		}
		x := &both{t, b, &model{}}
		for _, e := range someEvents() {
			if e.Kind != api.KOpen && e.Kind != api.KLock {
				x.tell(e)
			}
		}
		alike(t, b, &model{})
		x.take(open(10, "Assets", api.Asset), open(10, bank), open(10, cust), post(10, "x", line(bank, 5), line(cust, -5)), void(10, "v", "x"), lock(10))
		alike(t, b, x.m)
	}
}

func TestP7_4Questions(t *testing.T) {
	x := toldBooks(t).take(invoice(12, "i", cust, "Income", 42, 1000), pay(12, "p", cust, bank, 600), allot(12, "a", "p", "i", 250), post(12, "x", line(bank, 5), line(cust, -5)), open(13, "Debts", api.Liability), shut(13, "Debts"), lock(12), lock(14))
	for _, b := range []*Book{x.b, made(t, x.b.Base()).b} {
		if b.Len() != 12 || b.Lock() != 14 || b.Turnover() != 3210 {
			t.Errorf("Len %d, Lock %d, Turnover %d", b.Len(), b.Lock(), b.Turnover())
		}
		for name, want := range map[string]api.Account{"Assets": {Name: "Assets", Type: 1, Opened: 10}, cust: {Name: cust, Type: 1, Opened: 10}, "Debts": {Name: "Debts", Type: 2, Opened: 13, Closed: true}, "": {}, "Nobody": {}, "a": {}, "Assets:": {}, "Debts:N": {}} {
			if got, is := b.Account(name); got != want || is != (want.Name != "") {
				t.Errorf("Account(%q): %v, %v", name, got, is)
			}
		}
		for key, want := range map[string]int64{"i": 750, "p": 350} {
			if got, is := b.Left(key); got != want || !is {
				t.Errorf("Left(%q): %d, %v", key, got, is)
			}
		}
		for _, key := range []string{"", "a", "x", "nobody", "?", "I", cust} {
			if got, is := b.Left(key); got != 0 || is {
				t.Errorf("Left(%q): %d, %v", key, got, is)
			}
		}
	}
}

// TestP7_10Claims: several payments for one invoice, and one payment for several.
func TestP7_10Claims(t *testing.T) {
	x := toldBooks(t).take(invoice(12, "i", cust, "Income", 42, 100), invoice(12, "j", cust, "Income", 42, 50), invoice(12, "b", bank, "Income", 42, 50), pay(12, "p", cust, bank, 60), pay(12, "q", cust, bank, 70))
	x.refuse(api.ErrOver, allot(12, "a", "p", "i", 61))
	x.refuse(api.ErrOver, allot(12, "a", "q", "j", 51))
	x.refuse(api.ErrMix, allot(12, "a", "q", "b", 1))
	x.take(allot(12, "a1", "p", "i", 60))
	x.refuse(api.ErrOver, allot(12, "a", "p", "i", 1))
	x.refuse(api.ErrOver, allot(12, "a", "q", "i", 41))
	x.take(allot(12, "a2", "q", "i", 40))
	x.refuse(api.ErrOver, allot(12, "a", "q", "i", 1))
	x.refuse(api.ErrOver, allot(12, "a", "q", "j", 31))
	x.take(allot(12, "a3", "q", "j", 30))
	for key, want := range map[string]int64{"i": 0, "j": 20, "b": 50, "p": 0, "q": 0} {
		x.left(key, want, true)
	}
	x.turnover(660)
	alike(t, x.b, x.m)
}

// TestP7_2Thousand: a thousand events are taken and no more, whatever their kind.
func TestP7_2Thousand(t *testing.T) {
	base := toldBooks(t).take(invoice(12, "i", cust, "Income", 42, 1000), pay(12, "p", cust, bank, 600), post(12, "x", line(bank, 5), line(cust, -5)), open(12, "Last", api.Equity), lock(9)).b.Base()
	ones := []api.Event{
		open(12, "New", api.Asset), shut(12, "Last"), post(12, "k", line(bank, 5), line(cust, -5)), void(12, "k", "x"), invoice(12, "k", cust, "Income", 42, 1), pay(12, "k", cust, bank, 1), allot(12, "k", "p", "i", 1), lock(10),
	}
	others := []api.Event{post(12, "x", line(bank, 5), line(cust, -5)), post(9, "m", line(bank, 5), line(cust, -5)), lock(9), open(12, bank), shut(12, "Nobody"), void(12, "m", "nobody"), allot(12, "m", "i", "p", 1)}
	for _, last := range ones {
		base.Events = api.MaxEvents - 1
		x := made(t, base).take(last)
		for _, y := range []*both{x, made(t, x.b.Base())} {
			for _, e := range slices.Concat(ones, others) {
				y.refuse(api.ErrMany, e)
			}
			y.refuse(api.ErrEvent, lock(0))
		}
	}
}

// TestP7_3Thousand: a thousand events, one behind the other, and none that was left out.
func TestP7_3Thousand(t *testing.T) {
	b := New()
	for _, e := range []api.Event{open(1, "A", api.Asset), open(1, "B", api.Equity)} {
		if _, why := b.Apply(e); why != api.OK {
			t.Fatalf("%+v: %d", e, why)
		}
	}
	for n := 3; n <= api.MaxEvents; n++ {
		key := "k" + strconv.Itoa(n)
		want := []api.Posting{row(n, 1, n, 3, key, "A", int64(n)), row(n, 2, n, 3, key, "B", -int64(n))}
		if rows, why := b.Apply(post(n, key, line("A", int64(n)), line("B", -int64(n)))); why != api.OK || !slices.Equal(rows, want) || b.Len() != n {
			t.Fatalf("number %d: %v, %d, Len %d", n, rows, why, b.Len())
		}
	}
	if _, why := b.Apply(lock(api.MaxDay)); why != api.ErrMany || b.Len() != api.MaxEvents {
		t.Errorf("one more: %d", why)
	}
	base := b.Base()
	x := made(t, base)
	alike(t, x.b, x.m)
	if len(base.Rows) != 2*998 || len(base.Entries) != 998 {
		t.Errorf("%d rows, %d entries", len(base.Rows), len(base.Entries))
	}
}

func TestP7_3Lines(t *testing.T) {
	x := toldBooks(t)
	for n := range 15 {
		l := slices.Repeat([]api.Line{line(bank, 1, "t")}, n)
		if n > 0 {
			l[n-1] = line(cust, 1-int64(n))
		}
		e := post(12, "n"+strconv.Itoa(n), l...)
		e.Memo = "with many lines"
		if n < 2 || n > api.MaxLines {
			x.refuse(api.ErrEvent, e)
			x.refuse(api.ErrRef, void(12, "v"+strconv.Itoa(n), e.Key))
			continue
		}
		back := void(13, "v"+strconv.Itoa(n), e.Key)
		back.Memo = "and back"
		for _, e := range []api.Event{e, back} {
			if rows, why := x.tell(e); why != api.OK || len(rows) != n || rows[n-1].Memo != e.Memo || rows[0].Tag != "t" || rows[n-1].Line != n {
				t.Errorf("%+v: %v, %d", e, rows, why)
			}
		}
	}
	alike(t, x.b, x.m)
	x = made(t, x.b.Base())
	alike(t, x.b, x.m)
}

// TestP7_2Sums: sums of lines are those of whole numbers.
func TestP7_2Sums(t *testing.T) {
	const most, quarter = api.MaxAmount, 1 << 62
	x := toldBooks(t)
	for _, c := range []struct {
		want    api.Errno
		amounts []int64
	}{
		{api.ErrBalance, []int64{quarter, quarter, quarter, quarter}},                                            // 2^64
		{api.ErrBalance, []int64{most, most, 2}},                                                                 // 2^64, too
		{api.ErrBalance, []int64{-quarter, -quarter, -quarter, -quarter}},                                        //
		{api.ErrBalance, []int64{most, most, -most}},                                                             // fits
		{api.ErrBalance, []int64{most, 1, most}},                                                                 // does not
		{api.ErrOverflow, []int64{most, most, -most, -most}},                                                     // 0, by sums that don't fit
		{api.ErrOverflow, []int64{most, most, most, most, most, most, -most, -most, -most, -most, -most, -most}}, // 0, too
		{api.ErrOverflow, []int64{quarter, quarter, -most, -1}},                                                  // sizes of 2^64
		{api.ErrOverflow, []int64{quarter, -quarter}},                                                            // 2^63
		{api.ErrOverflow, []int64{most, -most}},
		{api.ErrEvent, []int64{least, quarter, quarter}},
		{api.ErrEvent, []int64{1, -1, 0}},
	} {
		var l []api.Line
		for i, n := range c.amounts {
			l = append(l, line([]string{bank, cust}[i%2], n))
		}
		x.refuse(c.want, post(12, "k", l...))
	}
	x.turnover(0)
	x.take(post(12, "k", line(bank, quarter/2), line(bank, quarter/2-1), line(cust, 1-quarter)))
	x.turnover(most - 1)
	alike(t, x.b, x.m)
}

// TestP7_7Bound: the turnover at its bound, and one event that would go beyond; with what rows there are it is always even.
func TestP7_7Bound(t *testing.T) {
	for _, free := range []int64{1, 2, 50} {
		x := toldBooks(t)
		n := api.MaxAmount/2 - free
		x.take(post(12, "x", line(bank, n), line(cust, -n)))
		x.refuse(api.ErrOverflow, void(12, "k", "x"))
		x.refuse(api.ErrOverflow, post(12, "k", line(bank, free+1), line(cust, -free-1)))
		x.refuse(api.ErrOverflow, post(12, "k", line(bank, free), line(cust, 1), line(bank, -free-1)))
		x.refuse(api.ErrOverflow, invoice(12, "k", cust, "Income", 42, free+1))
		x.refuse(api.ErrOverflow, pay(12, "k", cust, bank, free+1))
		x.refuse(api.ErrOverflow, invoice(12, "k", cust, "Income", 42, api.MaxAmount))
		x.refuse(api.ErrOverflow, pay(12, "k", cust, bank, api.MaxAmount))
		for _, e := range []api.Event{post(12, "k", line(bank, free), line(cust, -free)), invoice(12, "k", cust, "Income", 42, free), pay(12, "k", cust, bank, free)} {
			y := made(t, x.b.Base()).take(e)
			y.turnover(api.MaxAmount - 1)
			y = made(t, y.b.Base())
			alike(t, y.b, y.m)
			y.refuse(api.ErrOverflow, pay(12, "m", cust, bank, 1))
			y.refuse(api.ErrOverflow, void(12, "m", "x"))
			y.take(open(12, bank+":N"), lock(12), shut(13, bank+":N"))
		}
	}
}

// TestP7_2Days: both ends, a locked day and the one behind it.
func TestP7_2Days(t *testing.T) {
	x := begun(t).take(open(1, "A", api.Asset), open(1, "A:B"), open(1, "I", api.Income), open(api.MaxDay, "L", api.Asset))
	x.take(post(1, "x", line("A", 5), line("A:B", -5)), invoice(1, "i", "A", "I", api.MaxDay, 5), pay(1, "p", "A", "A:B", 5), allot(1, "a", "p", "i", 3), void(1, "v", "x"))
	x.refuse(api.ErrEarly, post(api.MaxDay-1, "k", line("A", 5), line("L", -5)))
	x.take(post(api.MaxDay, "k", line("A", 5), line("L", -5)), void(api.MaxDay, "kv", "k"), allot(api.MaxDay, "b", "p", "i", 2))
	for _, day := range []int{least, -1, 0, api.MaxDay + 1, greatest} {
		for _, e := range []api.Event{open(day, "N", 1), shut(day, "A:B"), post(day, "n", line("A", 5), line("A:B", -5)), void(day, "n", "k"), invoice(day, "n", "A", "I", api.MaxDay, 5), pay(day, "n", "A", "A:B", 5), allot(day, "n", "p", "i", 1), lock(day)} {
			x.refuse(api.ErrEvent, e)
		}
	}
	for _, locked := range []int{1, 2, 100, api.MaxDay - 1, api.MaxDay} {
		x.take(lock(locked))
		for _, day := range []int{1, locked - 1, locked} {
			if day > 0 {
				x.refuse(api.ErrEarly, lock(day))
				x.refuse(api.ErrLocked, open(day, "N", api.Asset))
				x.refuse(api.ErrLocked, open(day, "A", api.Asset))
				x.refuse(api.ErrLocked, shut(day, "Nobody"))
				x.refuse(api.ErrLocked, post(day, "n", line("A", 5), line("Nobody", -4)))
				x.refuse(api.ErrTwice, post(day, "k", line("A", 5), line("Nobody", -4)))
				x.refuse(api.ErrLocked, void(day, "n", "nobody"))
				x.refuse(api.ErrLocked, invoice(day, "n", "A", "I", day, 1))
				x.refuse(api.ErrLocked, pay(day, "n", "A", "A:B", 1))
				x.refuse(api.ErrLocked, allot(day, "n", "p", "i", 1))
			}
		}
		if locked < api.MaxDay {
			y := made(t, x.b.Base()).take(open(locked+1, "N", 1), post(locked+1, "n", line("A", 5), line("N", -5)), void(locked+1, "nv", "n"), invoice(locked+1, "o", "A", "I", locked+1, 1), pay(locked+1, "q", "A", "N", 1), allot(locked+1, "c", "q", "o", 1), lock(locked+1))
			alike(t, y.b, y.m)
		}
	}
}

// TestP7_2NotBefore: the day of what an event hangs on, and the one before it.
func TestP7_2NotBefore(t *testing.T) {
	x := toldBooks(t).take(post(12, "x", line(bank, 5), line(cust, -5)), invoice(14, "i", cust, "Income", 20, 100), pay(16, "p", cust, bank, 100), invoice(18, "j", cust, "Income", 20, 100))
	for _, c := range []struct {
		first int
		e     api.Event
	}{
		{12, void(0, "k", "x")}, {16, allot(0, "k", "p", "i", 1)}, {18, allot(0, "k", "p", "j", 1)}, {10, open(0, bank+":N")}, {10, post(0, "k", line(bank, 1), line(cust, -1))}, {10, pay(0, "k", cust, bank, 1)},
	} {
		for _, day := range []int{1, c.first - 1} {
			c.e.Day = day
			x.refuse(api.ErrEarly, c.e)
		}
		for _, day := range []int{c.first, c.first + 1, api.MaxDay} {
			c.e.Day = day
			y := made(t, x.b.Base()).take(c.e)
			alike(t, y.b, y.m)
		}
	}
	y := made(t, x.b.Base())
	y.refuse(api.ErrEarly, invoice(9, "k", cust, "Income", 20, 1))
	y.take(invoice(10, "k", cust, "Income", 10, 1))
	y.refuse(api.ErrEvent, invoice(10, "m", cust, "Income", 9, 1))
}

// TestP7_2Close: what an account must be rid of, and on which day.
func TestP7_2Close(t *testing.T) {
	x := toldBooks(t).take(open(10, "Assets:C"), open(13, "Assets:C:D"), open(10, "Assets:C-1"), open(10, "Assets:C:E"), open(14, "Assets:C:E:F"))
	x.refuse(api.ErrUse, shut(20, "Assets:C"))
	x.refuse(api.ErrEarly, shut(12, "Assets:C:D"))
	x.take(shut(13, "Assets:C:D"))
	x.refuse(api.ErrUse, shut(20, "Assets:C")) // E is open still
	x.refuse(api.ErrUse, shut(20, "Assets:C:E"))
	x.take(shut(14, "Assets:C:E:F"), shut(10, "Assets:C:E"), shut(10, "Assets:C"), shut(10, "Assets:C-1"))

	x.take(post(30, "x", line(cust, 5), line(bank, -5)))
	x.refuse(api.ErrUse, shut(40, cust))
	x.take(post(20, "y", line(cust, -5), line(bank, 5))) // the row of the earlier day came later
	x.refuse(api.ErrEarly, shut(29, cust))
	made(t, x.b.Base()).take(shut(30, cust))

	x.take(invoice(20, "i", cust, "Income", 90, 7), post(20, "z", line(cust, -7), line(bank, 7)))
	x.refuse(api.ErrUse, shut(40, cust)) // the balance is 0, the invoice has all left
	x.take(pay(21, "p", cust, bank, 7))
	x.refuse(api.ErrUse, shut(40, cust))
	x.take(post(20, "z2", line(cust, 7), line(bank, -7)))
	x.refuse(api.ErrUse, shut(40, cust)) // the balance is 0, both have all left
	x.take(allot(22, "a", "p", "i", 6))
	x.refuse(api.ErrUse, shut(40, cust))
	x.take(allot(60, "b", "p", "i", 1))
	x.refuse(api.ErrEarly, shut(29, cust))
	x.take(shut(30, cust)) // an allotment's day does not count: it has no row
	for _, e := range []api.Event{post(99, "k", line(cust, 1), line(cust, -1)), void(99, "k", "x"), invoice(99, "k", cust, "Income", 99, 1), pay(99, "k", cust, bank, 1), pay(99, "k", bank, cust, 1), open(99, cust+":N"), shut(99, cust)} {
		x.refuse(api.ErrClosed, e)
	}
	x.refuse(api.ErrExists, open(99, cust))
	alike(t, x.b, x.m)
}

// TestP7_8Once: a key that was taken is taken by no kind any more; one that was refused is.
func TestP7_8Once(t *testing.T) {
	x := toldBooks(t).take(invoice(12, "i", cust, "Income", 42, 1000), pay(12, "p", cust, bank, 600), post(12, "x", line(bank, 5), line(cust, -5)), void(12, "v", "x"), allot(12, "a", "p", "i", 1), post(12, "y", line(bank, 5), line(cust, -5)))
	with := func(key string) []api.Event {
		return []api.Event{post(12, key, line(bank, 5), line(cust, -5)), void(12, key, "y"), invoice(12, key, cust, "Income", 42, 1), pay(12, key, cust, bank, 1), allot(12, key, "p", "i", 1)}
	}
	for _, y := range []*both{x, made(t, x.b.Base())} {
		for _, key := range slices.Clone(y.m.Keys) {
			for _, e := range with(key) {
				y.refuse(api.ErrTwice, e)
			}
		}
	}
	for _, e := range with("new") {
		for _, bad := range []api.Event{post(12, "new", line(bank, 5), line(cust, -4)), void(12, "new", "x"), invoice(12, "new", cust, bank, 42, 1), pay(12, "new", cust, "Income", 1), allot(12, "new", "p", "i", 600)} {
			y := made(t, x.b.Base())
			if _, why := y.tell(bad); why == api.OK {
				t.Fatalf("%+v was taken", bad)
			}
			y.take(e)
			y.refuse(api.ErrTwice, bad)
		}
	}
	x.take(post(12, "X", line(bank, 5), line(cust, -5)), post(12, "x-", line(bank, 5), line(cust, -5))) // other keys
}
