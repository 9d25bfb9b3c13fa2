package ledger

import (
	"bytes"
	"fmt"
	"slices"
	"strings"
	"testing"

	"daybook/api"
	"daybook/disk"
	"daybook/event"
	"daybook/store"
)

// recordsOn: all records of a disk's segments, in order.
func recordsOn(x *disk.Disk) (l [][]byte) {
	for _, f := range x.State().Files {
		if strings.HasPrefix(f.Name, "log-") {
			records, _ := store.Scan(f.Data)
			l = append(l, records...)
		}
	}
	return l
}

// TestP18_2Taken: each event of each kind has its number, is on the disk, synced, as its bytes, and in all answers.
func TestP18_2Taken(t *testing.T) {
	for _, segment := range []int{64, 200, 65536} {
		x := newDisk(t, api.MaxDisk)
		l := on(t, x, segment)
		kinds := map[int]int{}
		for i, e := range append(story(), later()...) {
			n, why := l.Submit(e)
			want(t, "Submit", why, api.OK)
			same(t, "Submit", n, i+1)
			events := append(story(), later()...)[:i+1]
			alike(t, fmt.Sprintf("behind %+v", e), l, behind(t, events))
			if !slices.EqualFunc(recordsOn(x), encoded(t, events), bytes.Equal) {
				t.Fatalf("the records behind %+v are %q", e, recordsOn(x))
			}
			for _, f := range x.State().Files {
				same(t, "synced", f.Synced, len(f.Data))
			}
			kinds[e.Kind]++
		}
		same(t, "kinds", len(kinds), 8)
		has(t, l, api.Progress{Of: 37}, false)
	}
}

// TestP18_2Refused: the disk, Len and all answers are as they were; the same event is refused for the same again. The key of one that was refused can be used.
func TestP18_2Refused(t *testing.T) {
	l, x := kept(t, 64, story())
	model := behind(t, story())
	kinds, reasons := map[int]int{}, map[api.Errno]int{}
	for what, r := range refusals() {
		was, answers := shown(x), status(l)
		for range 2 {
			n, why := l.Submit(r.e)
			want(t, what, why, r.why)
			same(t, what, n, 0)
		}
		same(t, "the disk behind "+what, shown(x), was)
		same(t, "Status", status(l), answers)
		alike(t, "behind "+what, l, model)
		kinds[r.e.Kind]++
		reasons[r.why]++
	}
	if len(kinds) < 8 || len(reasons) < 15 {
		t.Errorf("too little was tried: %v, %v", kinds, reasons)
	}
	takes(t, l, []api.Event{post(d+90, "n", line(bank, 5), line(ann, -5))})
	takes(t, l, later())
}

// TestP18_2Order: ErrDown, ErrReadOnly, the books' error, the log's error, each ahead of the later ones.
func TestP18_2Order(t *testing.T) {
	l, x := full(t)
	_, why := l.Submit(api.Event{})
	want(t, "read only, no event", why, api.ErrReadOnly)
	failPower(t, x)
	_, why = l.Submit(api.Event{})
	want(t, "read only, the disk is down and not met", why, api.ErrReadOnly)
	_, why = l.Event(1)
	want(t, "Event", why, api.ErrDown)
	_, why = l.Submit(api.Event{})
	want(t, "down and read only", why, api.ErrDown)
	has(t, l, api.Progress{Of: l.Len()}, true)

	l, x = kept(t, 64, story())
	failPower(t, x)
	for what, r := range refusals() { // the books' answer goes ahead of the disk's
		_, why := l.Submit(r.e)
		want(t, what, why, r.why)
	}
	_, why = l.Submit(later()[0])
	want(t, "the disk is down", why, api.ErrDown)
	for what, r := range refusals() {
		_, why := l.Submit(r.e)
		want(t, what, why, api.ErrDown)
	}

	_, x = full(t)
	m := on(t, x, 64) // the same, not yet read only
	_, why = m.Submit(lock(1))
	want(t, "refused by the books on a full disk", why, api.ErrEarly)
	has(t, m, api.Progress{Of: m.Len()}, false)
	_, why = m.Submit(lock(api.MaxDay))
	want(t, "on a full disk", why, api.ErrFull)
}

// failPower: the power of a disk fails in somebody else's call.
func failPower(t *testing.T, x *disk.Disk) {
	t.Helper()
	want(t, "Fuse", x.Fuse(0), api.OK)
	want(t, "Sync", x.Sync("log"), api.ErrDown)
}

func TestP18_3Text(t *testing.T) {
	for digits := range api.MaxDigits + 1 {
		x := newDisk(t, api.MaxDisk)
		l, why := Open(x, api.Settings{Segment: 100, Digits: digits})
		want(t, "Open", why, api.OK)
		var events []api.Event
		for _, e := range append(story(), later()...) {
			s, why := event.Print(e, digits)
			want(t, "Print", why, api.OK)
			n, why := l.Text(" \t" + strings.ReplaceAll(s, " ", "  "))
			want(t, s, why, api.OK)
			events = append(events, e)
			same(t, s, n, len(events))
		}
		model := behind(t, events)
		model.digits = digits
		alike(t, fmt.Sprint("with digits ", digits), l, model)
		for _, r := range refusals() {
			if s, why := event.Print(r.e, digits); why == api.OK {
				of := model.books.Check(r.e)
				if refuses(t, l, s, of); of == api.OK {
					t.Errorf("%s is taken", s)
				}
			}
		}
	}
}

func TestP18_3Refused(t *testing.T) {
	l, x := kept(t, 64, story())
	was := shown(x)
	for s, why := range map[string]api.Errno{
		"":                                  api.ErrEvent,
		"open":                              api.ErrEvent,
		"open 2024-13-01 Zeta asset":        api.ErrEvent,
		"pay 2024-04-01 n " + ann + " x 5":  api.ErrEvent,
		"lock 2024-04-01 2024-04-02":        api.ErrEvent,
		"lock 2024-04-01\n":                 api.ErrEvent,
		"; lock 2024-04-01":                 api.ErrEvent,
		"post 2024-04-01 n":                 api.ErrEvent,
		strings.Repeat(" ", 2001):           api.ErrLong,
		strings.Repeat("\x00", 5000):        api.ErrLong,
		"open 2024-04-01 Assets asset":      api.ErrExists,
		"pay 2024-04-01 i1 Zeta Zeta:Y 5":   api.ErrTwice,
		"pay 2024-04-01 n Zeta Zeta:Y 5":    api.ErrUnknown,
		"pay 2024-04-01 n Zeta Zeta:Y .005": api.ErrEvent, // more than two digits
		"lock 2024-01-15":                   api.ErrEarly,
	} {
		refuses(t, l, s, why)
		refuses(t, l, s, why)
	}
	same(t, "the disk", shown(x), was)
	alike(t, "behind them", l, behind(t, story()))
	texts(t, l, "lock 2024-04-01"+strings.Repeat(" ", 2000-15))

	// Read only goes ahead of the line's faults, and down ahead of both.
	l, x = full(t)
	refuses(t, l, "open", api.ErrReadOnly)
	refuses(t, l, strings.Repeat(" ", 2001), api.ErrReadOnly)
	failPower(t, x)
	l.Event(1)
	refuses(t, l, "open", api.ErrDown)
	refuses(t, l, strings.Repeat(" ", 2001), api.ErrDown)

	// The line's faults go ahead of what the disk answers.
	l, x = kept(t, 64, story())
	failPower(t, x)
	refuses(t, l, "open", api.ErrEvent)
	refuses(t, l, "lock 2024-01-15", api.ErrEarly)
	refuses(t, l, "lock 2024-04-15", api.ErrDown)
	refuses(t, l, "open", api.ErrDown)
}

func TestP18_4Event(t *testing.T) {
	events := story()
	l, x := kept(t, 64, events)
	model := behind(t, events)
	was := shown(x)
	for _, n := range []int{least, -1, 0, 1, 2, 26, 27, 28, 29, greatest} {
		got, why := l.Event(n)
		wanted, reason := model.Event(n)
		want(t, fmt.Sprint("Event ", n), why, reason)
		same(t, fmt.Sprint("Event ", n), fmt.Sprintf("%+v", got), fmt.Sprintf("%+v", wanted))
	}
	same(t, "the disk", shown(x), was)
	e, x := kept(t, 64, nil)
	for _, n := range []int{least, -1, 0, 1, greatest} {
		_, why := e.Event(n)
		want(t, fmt.Sprint("Event ", n, " of none"), why, api.ErrNoRecord)
	}
	same(t, "the files", names(x), "log log-000001")
}

// TestP18_4Meddled: somebody else has been at the files: what is read is told to be no log's, and the reports go on.
func TestP18_4Meddled(t *testing.T) {
	l, x := kept(t, 65536, story())
	b := data(x, "log-000001")
	want(t, "Remove", x.Remove("log-000001"), api.OK)
	want(t, "Create", x.Create("log-000001"), api.OK)
	want(t, "Append", x.Append("log-000001", b[:len(b)-1]), api.OK)
	for n := 1; n <= 27; n++ {
		_, why := l.Event(n)
		if n < 27 {
			want(t, "Event", why, api.OK)
		} else {
			want(t, "Event", why, api.ErrLog)
		}
	}
	s, why := l.Export()
	want(t, "Export", why, api.ErrLog)
	same(t, "Export", s, "")
	p, why := l.Rebuild(26)
	want(t, "Rebuild", why, api.OK)
	same(t, "Rebuild", p, api.Progress{Busy: true, At: 26, Of: 27})
	p, why = l.Rebuild(1)
	want(t, "Rebuild", why, api.ErrLog)
	same(t, "Rebuild", p, api.Progress{})
	has(t, l, api.Progress{Of: 27}, false)
	trial, why := l.Trial()
	wanted, _ := behind(t, story()).Trial()
	want(t, "Trial", why, api.OK)
	same(t, "Trial", fmt.Sprint(trial), fmt.Sprint(wanted))
}

// TestP18_2Meddled: an error of the log that is neither ErrFull nor ErrMany nor ErrDown is the answer, and nothing else.
func TestP18_2Meddled(t *testing.T) {
	l, x := kept(t, 65536, story())
	want(t, "Remove", x.Remove("log-000001"), api.OK)
	for range 2 {
		n, why := l.Submit(later()[0])
		want(t, "Submit", why, api.ErrNone)
		same(t, "Submit", n, 0)
		n, err := l.Import("lock 2024-04-01\n")
		same(t, "Import", n, 0)
		same(t, "Import", err, error(api.ErrNone))
		refuses(t, l, "lock 2024-04-01", api.ErrNone)
	}
	has(t, l, api.Progress{Of: 27}, false)
	trial, why := l.Trial()
	wanted, _ := behind(t, story()).Trial()
	want(t, "Trial", why, api.OK)
	same(t, "Trial", fmt.Sprint(trial), fmt.Sprint(wanted))
}
