package ledger

import (
	"slices"
	"testing"

	"daybook/api"
	"daybook/day"
	"daybook/event"
)

// texts: lines that are all taken, in this order.
func texts(t *testing.T, l *Ledger, lines ...string) {
	t.Helper()
	for _, s := range lines {
		n := l.Len()
		if got, why := l.Text(s); got != n+1 || why != api.OK {
			t.Fatalf("%s: %d, error %d", s, got, int(why))
		}
	}
}

// refuses: a line is refused for this.
func refuses(t *testing.T, l *Ledger, s string, why api.Errno) {
	t.Helper()
	n, got := l.Text(s)
	same(t, s, n, 0)
	want(t, s, got, why)
}

func on2024(t *testing.T, s string) int {
	t.Helper()
	n, why := day.Parse("2024-" + s)
	want(t, "day.Parse", why, api.OK)
	return n
}

func TestExample1Open(t *testing.T) {
	x := newDisk(t, 100000)
	l := on(t, x, 4096)
	same(t, "Len", l.Len(), 0)
	has(t, l, api.Progress{}, false)
	for _, s := range []api.Settings{{Segment: 63, Digits: 2}, {Segment: 4096, Digits: 7}} {
		l, why := Open(x, s)
		want(t, "Open", why, api.ErrArg)
		same(t, "Open", l, nil)
	}
}

func TestExample2Text(t *testing.T) {
	l := on(t, newDisk(t, 100000), 4096)
	const s = "open 2024-01-01 Assets asset"
	texts(t, l, s)
	same(t, "Len", l.Len(), 1)
	refuses(t, l, s, api.ErrExists)
	_, why := event.Parse("open", 2)
	refuses(t, l, "open", why)
	e, why := l.Event(1)
	want(t, "Event", why, api.OK)
	parsed, _ := event.Parse(s, 2)
	same(t, "Event", event1(e), event1(parsed))
	for _, n := range []int{0, 2} {
		_, why := l.Event(n)
		want(t, "Event", why, api.ErrNoRecord)
	}
}

// event1: an event's line.
func event1(e api.Event) string {
	s, _ := event.Print(e, 6)
	return s
}

func TestExample3Reports(t *testing.T) {
	l := on(t, newDisk(t, 100000), 4096)
	texts(t, l, "open 2024-01-01 Assets asset")
	b, why := l.Rollup("Assets")
	want(t, "Rollup", why, api.OK)
	same(t, "Rollup", b, api.Balance{Account: "Assets"})
	_, why = l.Rollup("Income")
	want(t, "Rollup", why, api.ErrUnknown)
	_, why = l.Daily("Income", 5, 4)
	want(t, "Daily", why, api.ErrArg)
}

func TestExample4Rebuild(t *testing.T) {
	l := on(t, newDisk(t, 100000), 4096)
	takes(t, l, append(first(), invoice(d+9, "i1", ann, work, d+39, 10000)))
	step := func(k int, p api.Progress) {
		t.Helper()
		got, why := l.Rebuild(k)
		want(t, "Rebuild", why, api.OK)
		same(t, "Rebuild", got, p)
		has(t, l, p, false)
	}
	step(3, api.Progress{Busy: true, At: 3, Of: 7})
	step(3, api.Progress{Busy: true, At: 6, Of: 7})
	takes(t, l, []api.Event{lock(d)})
	step(3, api.Progress{Busy: true, At: 8, Of: 8})
	step(3, api.Progress{Gen: 1, Of: 8})
	step(100, api.Progress{Gen: 1, Busy: true, At: 8, Of: 8})
	p, why := l.Rebuild(0)
	want(t, "Rebuild(0)", why, api.ErrArg)
	same(t, "Rebuild(0)", p, api.Progress{})
	has(t, l, api.Progress{Gen: 1, Busy: true, At: 8, Of: 8}, false)
	step(1, api.Progress{Gen: 2, Of: 8})
}

func TestExample5Checkpoints(t *testing.T) {
	x := newDisk(t, 100000)
	l := on(t, x, 4096)
	takes(t, l, first())
	trims := func(n int) {
		t.Helper()
		got, why := l.Trim(1)
		want(t, "Trim", why, api.OK)
		same(t, "Trim", got, n)
	}
	want(t, "Snapshot", l.Snapshot(), api.OK)
	trims(0)
	takes(t, l, []api.Event{lock(d)})
	want(t, "Snapshot", l.Snapshot(), api.OK)
	both := copied(t, x)
	trims(1)
	same(t, "the files", names(x), "ckpt-000007 log log-000001")
	model := behind(t, append(first(), lock(d)))
	newest := data(both, "ckpt-000007")
	cut := withFile(t, both, "ckpt-000007", newest[:len(newest)-1])
	alike(t, "with one cut", on(t, cut, 4096), model)
	none := withFile(t, withFile(t, both, "ckpt-000007", nil), "ckpt-000006", nil)
	same(t, "the files", names(none), "log log-000001")
	alike(t, "with none", on(t, none, 4096), model)
}

func TestExample6Down(t *testing.T) {
	x := newDisk(t, 100000)
	l := on(t, x, 4096)
	takes(t, l, first())
	want(t, "Fuse", x.Fuse(1), api.OK)
	n, why := l.Submit(lock(d))
	want(t, "Submit", why, api.ErrDown)
	same(t, "Submit", n, 0)
	down := func() {
		t.Helper()
		_, why := l.Trial()
		want(t, "Trial", why, api.ErrDown)
		_, _, why = l.Query("show count")
		want(t, "Query", why, api.ErrDown)
		_, why = l.Submit(lock(d))
		want(t, "Submit", why, api.ErrDown)
		same(t, "Len", l.Len(), 6)
	}
	down()
	for _, c := range []struct{ keep, events int }{{0, 6}, {5, 6}, {9999, 7}} {
		y := crashed(t, x, c.keep)
		same(t, "Len", on(t, y, 4096).Len(), c.events)
	}
	x.Crash(nil)
	down()
	same(t, "Len", on(t, x, 4096).Len(), 6)
	down()
}

func TestExample7Full(t *testing.T) {
	l := on(t, newDisk(t, 200), 4096)
	why := api.OK
	for n := 1; why == api.OK; n++ {
		_, why = l.Submit(lock(n))
	}
	want(t, "Submit", why, api.ErrFull)
	for _, e := range []api.Event{lock(api.MaxDay), {}, lock(1)} {
		_, why := l.Submit(e)
		want(t, "Submit", why, api.ErrReadOnly)
	}
	_, why = l.Trial()
	want(t, "Trial", why, api.OK)
	n, why := l.Trim(0)
	want(t, "Trim", why, api.OK)
	same(t, "Trim", n, 0)
	_, why = l.Submit(lock(api.MaxDay))
	want(t, "Submit", why, api.ErrReadOnly)
	if _, readOnly := l.Status(); !readOnly {
		t.Error("it is not read only")
	}
}

// TestExamplesOfTheWhole: DOC.md's ten.
func TestExamplesOfTheWhole(t *testing.T) {
	x := newDisk(t, 100000)
	l := on(t, x, 4096)
	texts(t, l, "open 2024-01-01 Assets asset", "open 2024-01-01 Assets:Bank", "open 2024-01-01 Income income", "open 2024-01-01 Income:Work")
	refuses(t, l, "open 2024-01-01 Assets:Bank", api.ErrExists)
	refuses(t, l, "open 2024-01-01 Assets:Cust:Ann", api.ErrUnknown)
	texts(t, l, "open 2024-01-01 Assets:Cust", "open 2024-01-01 Assets:Cust:Ann")
	texts(t, l, "invoice 2024-01-10 i1 Assets:Cust:Ann Income:Work due 2024-02-09 100.00")
	same(t, "Len", l.Len(), 7)
	b, _ := l.Rollup("Assets")
	same(t, "Rollup", b, api.Balance{Account: "Assets", Rollup: 10000})
	trial, _ := l.Trial()
	if !slices.Equal(trial, []api.Column{{Account: ann, Debit: 10000}, {Account: work, Credit: 10000}}) {
		t.Errorf("Trial: %v", trial)
	}

	texts(t, l, "pay 2024-02-20 p1 Assets:Cust:Ann Assets:Bank 60.00")
	refuses(t, l, "allot 2024-02-20 a1 p1 i1 70.00", api.ErrOver)
	texts(t, l, "allot 2024-02-20 a1 p1 i1 60.00")
	for key, left := range map[string]int64{"i1": 4000, "p1": 0} {
		got, why := l.Left(key)
		want(t, "Left", why, api.OK)
		same(t, "Left", got, left)
	}
	for date, ages := range map[string]api.Ages{"02-09": {10000}, "02-10": {0, 10000}, "02-20": {0, 4000}, "03-11": {0, 0, 4000}} {
		got, why := l.Aged(ann, on2024(t, date))
		want(t, "Aged", why, api.OK)
		same(t, "Aged "+date, got, ages)
	}
	refuses(t, l, "post 2024-02-01 x1 Assets:Bank -5.00, Assets:Cust:Ann 5.01", api.ErrBalance)
	texts(t, l, "post 2024-02-01 x1 Assets:Bank -5.00, Assets:Cust:Ann 5.00")
	refuses(t, l, "post 2024-02-01 x1 Assets:Bank -5.00, Assets:Cust:Ann 5.00", api.ErrTwice)
	rows, _ := l.Daily(bank, on2024(t, "01-01"), on2024(t, "12-31"))
	if !slices.Equal(rows, []api.DayRow{{Account: bank, Day: on2024(t, "02-01"), Change: -500, Balance: -500}, {Account: bank, Day: on2024(t, "02-20"), Change: 6000, Balance: 5500}}) {
		t.Errorf("Daily: %v", rows)
	}

	texts(t, l, "lock 2024-01-31")
	refuses(t, l, "void 2024-01-15 v1 x1", api.ErrLocked)
	texts(t, l, "void 2024-02-01 v1 x1")
	same(t, "Len", l.Len(), 12)
	refuses(t, l, "void 2024-02-01 v2 x1", api.ErrVoided)
	refuses(t, l, "close 2024-03-01 Assets:Cust:Ann", api.ErrUse)
	table, at, why := l.Query("where account under 'Assets' by month show sum(amount)")
	want(t, "Query", why, api.OK)
	if at != 0 || len(table.Rows) != 2 || table.Rows[0][0].Num != 202401 || table.Rows[0][1].Num != 10000 || table.Rows[1][0].Num != 202402 || table.Rows[1][1].Num != 0 {
		t.Errorf("Query: %v, %d", table, at)
	}
	lastExample(t, l)
}

// lastExample: the power fails in the midst of a submit.
func lastExample(t *testing.T, l *Ledger) {
	t.Helper()
	var events []api.Event
	for n := range l.Len() {
		e, _ := l.Event(n + 1)
		events = append(events, e)
	}
	x := l.disk
	want(t, "Fuse", x.Fuse(1), api.OK)
	refuses(t, l, "open 2024-03-01 Costs expense", api.ErrDown)
	lost, last := crashed(t, x), crashed(t, x, 9999)
	alike(t, "behind a crash that takes it", on(t, lost, 4096), behind(t, events))
	alike(t, "behind a crash that leaves it", on(t, last, 4096), behind(t, append(events, opens(on2024(t, "03-01"), "Costs", api.Expense))))
}
