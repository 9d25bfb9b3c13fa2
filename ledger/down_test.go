package ledger

import (
	"fmt"
	"testing"

	"daybook/api"
	"daybook/ckpt"
	"daybook/disk"
)

// call: one of a ledger's, with its answer: all results but the error as a text, and that.
type call struct {
	what string
	do   func(l *Ledger) (string, api.Errno)
}

// none is what a call answers besides ErrDown.
func none(l ...any) string { return fmt.Sprint(l...) }

// everyCall: each call but Len and Status, with arguments that are good and with such as other errors are for.
func everyCall() []call {
	var l []call
	add := func(what string, do func(l *Ledger) (string, api.Errno)) { l = append(l, call{what, do}) }
	for _, e := range []api.Event{later()[0], {}, lock(1)} {
		add(fmt.Sprintf("Submit %+v", e), func(l *Ledger) (string, api.Errno) { n, why := l.Submit(e); return none(n), why })
	}
	for _, s := range []string{"lock 2024-05-01", "", "no event"} {
		add("Text "+s, func(l *Ledger) (string, api.Errno) { n, why := l.Text(s); return none(n), why })
	}
	for _, n := range []int{0, 1, 99} {
		add(fmt.Sprint("Event ", n), func(l *Ledger) (string, api.Errno) {
			e, why := l.Event(n)
			return none(fmt.Sprintf("%+v", e) == fmt.Sprintf("%+v", api.Event{})), why
		})
	}
	add("Trial", func(l *Ledger) (string, api.Errno) { r, why := l.Trial(); return none(len(r)), why })
	for _, name := range []string{bank, "No"} {
		add("Rollup "+name, func(l *Ledger) (string, api.Errno) { r, why := l.Rollup(name); return none(r == api.Balance{}), why })
		for _, day := range []int{0, d} {
			add(fmt.Sprint("Daily ", name, day), func(l *Ledger) (string, api.Errno) { r, why := l.Daily(name, day, d+99); return none(len(r)), why })
			add(fmt.Sprint("Aged ", name, day), func(l *Ledger) (string, api.Errno) { r, why := l.Aged(name, day); return none(r == api.Ages{}), why })
			add(fmt.Sprint("Open ", name, day), func(l *Ledger) (string, api.Errno) { r, why := l.Open(name, day); return none(len(r)), why })
		}
	}
	add("Accounts", func(l *Ledger) (string, api.Errno) { r, why := l.Accounts(); return none(len(r)), why })
	for _, key := range []string{"i1", "no"} {
		add("Left "+key, func(l *Ledger) (string, api.Errno) { n, why := l.Left(key); return none(n), why })
	}
	for _, s := range []string{"show count", "show", "show sum(day)", "show count,"} {
		add("Query "+s, func(l *Ledger) (string, api.Errno) {
			r, at, why := l.Query(s)
			return none(len(r.Types), len(r.Rows), at), why
		})
	}
	add("Export", func(l *Ledger) (string, api.Errno) { s, why := l.Export(); return none(len(s)), why })
	for _, s := range []string{"", "lock 2024-05-01\n", "no journal", "lock 0001-01-01\n"} {
		add("Import "+s, func(l *Ledger) (string, api.Errno) {
			n, err := l.Import(s)
			why, _ := err.(api.Errno)
			return none(n), why
		})
	}
	add("Snapshot", func(l *Ledger) (string, api.Errno) { return none(), l.Snapshot() })
	for _, n := range []int{-1, 0, 1} {
		add(fmt.Sprint("Trim ", n), func(l *Ledger) (string, api.Errno) { n, why := l.Trim(n); return none(n), why })
		add(fmt.Sprint("Rebuild ", n), func(l *Ledger) (string, api.Errno) { p, why := l.Rebuild(n); return none(p == api.Progress{}), why })
	}
	return l
}

// isDown: every call answers ErrDown, with all else zero, and does nothing; Len and Status answer as ever.
func isDown(t *testing.T, l *Ledger, x *disk.Disk) {
	t.Helper()
	disk, state, n := shown(x), status(l), l.Len()
	zeros := map[string]bool{"": true, "0": true, "true": true, "0 0 0": true}
	for _, c := range everyCall() {
		got, why := c.do(l)
		want(t, c.what, why, api.ErrDown)
		if !zeros[got] {
			t.Errorf("%s: %s beside ErrDown", c.what, got)
		}
	}
	same(t, "the disk", shown(x), disk)
	same(t, "Status", status(l), state)
	same(t, "Len", l.Len(), n)
}

// TestDown: a ledger that has met ErrDown in any of its calls stays down, whatever becomes of the disk.
func TestDown(t *testing.T) {
	for _, c := range everyCall() {
		l, x := kept(t, 300, story())
		want(t, "Snapshot", l.Snapshot(), api.OK)
		l.Rebuild(1)
		failPower(t, x)
		if _, why := c.do(l); why != api.ErrDown {
			continue
		}
		same(t, "Len", l.Len(), 27)
		isDown(t, l, x)
		x.Crash([]int{3, 99})
		isDown(t, l, x)
		m := on(t, x, 300)
		isDown(t, l, x)
		takes(t, m, later())
		isDown(t, l, x)
		same(t, "Len", l.Len(), 27)
		alike(t, "the next one", m, behind(t, append(story(), later()...)))
	}
}

// TestDownIsMet: which calls go to the disk, and meet what has failed in somebody else's; the others answer as ever.
func TestDownIsMet(t *testing.T) {
	meets := map[string]bool{
		fmt.Sprintf("Submit %+v", later()[0]): true, "Text lock 2024-05-01": true, "Event 1": true, "Export": true, "Import lock 2024-05-01\n": true,
		"Snapshot": true, "Trim 0": true, "Trim 1": true, "Rebuild 1": true,
	}
	met := 0
	for _, c := range everyCall() {
		l, x := kept(t, 300, story())
		want(t, "Snapshot", l.Snapshot(), api.OK)
		whole, _ := kept(t, 300, story())
		want(t, "Snapshot", whole.Snapshot(), api.OK)
		failPower(t, x)
		got, why := c.do(l)
		_, trial := l.Trial()
		if meets[c.what] {
			want(t, c.what, why, api.ErrDown)
			want(t, "Trial behind "+c.what, trial, api.ErrDown)
			met++
			continue
		}
		wanted, reason := c.do(whole)
		want(t, c.what, why, reason)
		same(t, c.what, got, wanted)
		want(t, "Trial behind "+c.what, trial, api.OK)
		has(t, l, api.Progress{Of: 27}, false)
	}
	same(t, "calls that met it", met, len(meets))

	// Where nothing is to be read or written nothing is met.
	l, x := kept(t, 300, nil)
	failPower(t, x)
	s, why := l.Export()
	want(t, "Export of none", why, api.OK)
	same(t, "Export of none", s, "")
	steps(t, l, 1, api.Progress{Gen: 1})
	n, err := l.Import("; nothing\n")
	same(t, "Import of none", n, 0)
	same(t, "Import of none", err, nil)
	l, x = kept(t, 300, story())
	l.Rebuild(27)
	failPower(t, x)
	steps(t, l, 1, api.Progress{Gen: 1, Of: 27}) // all was read
	x.Crash(nil)
	alike(t, "nothing was met", l, behind(t, story()))
	takes(t, l, later())
}

// cleaned: a ledger whose disk has failed in the clean-up of a submit that had no room, with the model of its events.
func cleaned(t *testing.T) (*Ledger, *disk.Disk, *plain) {
	t.Helper()
	for capacity := 200; ; capacity++ {
		x := newDisk(t, capacity)
		l := on(t, x, 64)
		var taken []api.Event
		for _, e := range story() {
			y := copied(t, x) // how it would go
			want(t, "Fuse", y.Fuse(2), api.OK)
			_, why := on(t, y, 64).Submit(e)
			if why == api.ErrFull && y.Down() {
				want(t, "Fuse", x.Fuse(2), api.OK)
				n, why := l.Submit(e)
				want(t, "Submit", why, api.ErrFull)
				same(t, "Submit", n, 0)
				same(t, "the disk is down", x.Down(), true)
				return l, x, behind(t, taken)
			}
			if _, why := l.Submit(e); why != api.OK {
				break
			}
			taken = append(taken, e)
		}
	}
}

// TestDownInCleanUp: a clean-up of the log whose answer does not count does not make the ledger down; the next call that goes to the log does.
func TestDownInCleanUp(t *testing.T) {
	for _, c := range everyCall() {
		l, x, model := cleaned(t)
		n := model.Len()
		has(t, l, api.Progress{Of: n}, true)
		_, why := l.Trial()
		want(t, "Trial", why, api.OK)
		_, why = l.Submit(later()[0])
		want(t, "Submit", why, api.ErrReadOnly)
		_, why = l.Event(0)
		want(t, "Event", why, api.ErrNoRecord)
		if _, why := c.do(l); why == api.ErrDown {
			isDown(t, l, x)
		} else {
			_, why = l.Trial()
			want(t, "Trial behind "+c.what, why, api.OK)
		}
		has(t, l, api.Progress{Of: n}, true)
	}

	// Behind a crash the log still answers that it is down, where the disk's own files do not.
	l, x, model := cleaned(t)
	x.Crash(nil)
	gone, why := l.Trim(0)
	want(t, "Trim", why, api.OK)
	same(t, "Trim", gone, 0)
	_, why = l.Trial()
	want(t, "Trial", why, api.OK)
	_, why = l.Event(1)
	want(t, "Event", why, api.ErrDown)
	isDown(t, l, x)
	alike(t, "opened anew", on(t, x, 64), model)
}

// TestDownInCleanUpOfCheckpoint: likewise one of a checkpoint.
func TestDownInCleanUpOfCheckpoint(t *testing.T) {
	make := func() (*Ledger, *disk.Disk) {
		x := newDisk(t, 1500)
		l := on(t, x, 4096)
		takes(t, l, story())
		if b, _ := ckpt.Encode(behind(t, story()).snap()); len(b) <= x.Free() {
			t.Fatal("there is room")
		}
		want(t, "Fuse", x.Fuse(1), api.OK)
		want(t, "Snapshot", l.Snapshot(), api.ErrFull)
		same(t, "the disk is down", x.Down(), true)
		has(t, l, api.Progress{Of: 27}, false)
		_, why := l.Trial()
		want(t, "Trial", why, api.OK)
		return l, x
	}
	l, x := make()
	_, why := l.Event(1)
	want(t, "Event", why, api.ErrDown)
	isDown(t, l, x)

	l, x = make()
	x.Crash(nil)
	alike(t, "nothing was met", l, behind(t, story()))
	takes(t, l, later()[:2])
	alike(t, "opened anew", on(t, x, 4096), behind(t, append(story(), later()[:2]...)))
}

// TestUnopened: a ledger that nobody opened is down, and has no events.
func TestUnopened(t *testing.T) {
	l := &Ledger{}
	for _, c := range everyCall() {
		_, why := c.do(l)
		want(t, c.what, why, api.ErrDown)
	}
	same(t, "Len", l.Len(), 0)
	has(t, l, api.Progress{}, false)
}
