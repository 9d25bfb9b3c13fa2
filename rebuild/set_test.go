package rebuild

import (
	"strconv"
	"testing"

	"daybook/api"
)

func TestP12_1New(t *testing.T) {
	has(t, New(), api.Snap{AsOf: api.MinDay})
	if a, b := New(), New(); a == b || a.Book() == b.Book() {
		t.Error("two new sets are one")
	}
	// A set that nobody made is that behind no events.
	has(t, &Set{}, api.Snap{AsOf: api.MinDay})
	x := &both{t: t, s: &Set{}}
	for _, e := range story() {
		x.tell(e)
	}
}

// TestP12_1EveryKind: the whole Snap behind each event, and behind each again, which is refused: by its key, or as what was done already.
func TestP12_1EveryKind(t *testing.T) {
	x := &both{t: t, s: New()}
	kinds := map[int]int{}
	for i, e := range story() {
		if why := x.tell(e); why != api.OK {
			t.Errorf("event %d is refused: %d", i, why)
		}
		kinds[e.Kind]++
		if why := x.tell(e); why == api.OK {
			t.Errorf("event %d is taken again", i)
		}
	}
	if len(kinds) != 8 {
		t.Errorf("not every kind: %v", kinds)
	}
}

// TestP12_1Refused: events of every kind, one at least for each error of the books, change nothing, each of them told twice.
func TestP12_1Refused(t *testing.T) {
	x := &both{t: t, s: New()}
	for _, e := range story() {
		x.tell(e)
	}
	const late = d + 90
	for _, c := range []struct {
		e    api.Event
		want api.Errno
	}{
		{api.Event{}, api.ErrEvent},
		{api.Event{Kind: 9, Day: late}, api.ErrEvent},
		{lock(api.MaxDay + 1), api.ErrEvent},
		{open(late, "Root", 0), api.ErrEvent},
		{invoice(late, "n", ann, work, late-1, 5), api.ErrEvent},
		{allot(late, "n", "p1", "i1", 0), api.ErrEvent},
		{open(late, bank, 0), api.ErrExists},
		{open(late, "No:Parent", 0), api.ErrUnknown},
		{open(late, "Gone:Kid", 0), api.ErrClosed},
		{shut(late, "No"), api.ErrUnknown},
		{shut(late, "Gone"), api.ErrClosed},
		{shut(late, bank), api.ErrUse},
		{shut(late, "Assets"), api.ErrUse},
		{post(late, "n", line(bank, 5), line(ann, -4)), api.ErrBalance},
		{post(late, "n", line(bank, 5), line("No", -5)), api.ErrUnknown},
		{post(late, "n", line(bank, 5), line("Gone", -5)), api.ErrClosed},
		{post(late, "i1", line(bank, 5), line(ann, -5)), api.ErrTwice},
		{post(d+45, "n", line(bank, 5), line(ann, -5)), api.ErrLocked},
		{post(late, "n", line(bank, 1<<62), line(ann, -1<<62)), api.ErrOverflow},
		{void(late, "n", "i1"), api.ErrRef},
		{void(late, "n", "x1"), api.ErrVoided},
		{void(d+59, "n", "x3"), api.ErrEarly},
		{invoice(late, "n", work, ann, late, 5), api.ErrType},
		{invoice(late, "n", ann, work, late, 1<<62), api.ErrOverflow},
		{pay(late, "n", ann, work, 5), api.ErrType},
		{allot(late, "n", "i1", "p1", 5), api.ErrRef},
		{allot(late, "n", "p1", "i2", 5), api.ErrMix},
		{allot(d+58, "n", "p1", "i3", 1), api.ErrEarly},
		{allot(late, "n", "p1", "i1", 501), api.ErrOver},
		{lock(d + 45), api.ErrEarly},
	} {
		for range 2 {
			if got := x.tell(c.e); got != c.want {
				t.Errorf("%+v: %d, want %d", c.e, got, c.want)
			}
		}
	}
	x.tell(open(late, "Last", api.Equity))
	if why := x.tell(open(late-1, "Last:Kid", 0)); why != api.ErrEarly {
		t.Errorf("a kid ahead of its parent: %d", why)
	}
}

// TestP12_1Day: the views' day goes on to an event's, and never back; whatever the kind.
func TestP12_1Day(t *testing.T) {
	for _, on := range []api.Event{
		open(d+9, "New", api.Asset), shut(d+9, "Spare"), post(d+9, "x", line(bank, 1), line(ann, -1)), void(d+9, "v", "old"),
		invoice(d+9, "i", ann, work, d+50, 7), pay(d+9, "p", ann, bank, 7), allot(d+9, "a", "bp", "bi", 3), lock(d + 9),
	} {
		for _, gone := range []int{d + 6, d + 8, d + 9, d + 10, d + 300, api.MaxDay} {
			x := &both{t: t, s: behind(t, opened()), taken: opened()}
			for _, e := range []api.Event{
				open(d, "Spare", api.Equity), post(d+1, "old", line(bank, 5), line(ann, -5)), invoice(d+1, "bi", ann, work, d+2, 5), pay(d+1, "bp", ann, bank, 5),
				post(gone, "on", line(bank, 5), line(ann, -5)),
			} {
				x.tell(e)
			}
			if why := x.tell(on); why != api.OK || x.s.Aged().AsOf() != max(gone, d+9) {
				t.Errorf("%+v at day %d: %d; the views' day is %d", on, gone, why, x.s.Aged().AsOf())
			}
		}
	}
	x := &both{t: t, s: New()}
	x.tell(open(api.MinDay, "A", api.Asset))
	x.tell(lock(api.MaxDay))
}

// TestP12_1Most: as many events as there may be, and not one more; no view refuses ahead of the books.
func TestP12_1Most(t *testing.T) {
	events := mostEvents()
	s := behind(t, events)
	has(t, s, plainSnap(t, events))
	if why := s.Apply(lock(d + 1000)); why != api.ErrMany {
		t.Errorf("one more: %d", why)
	}
	has(t, s, plainSnap(t, events))
	has(t, from(t, s.Snap()), plainSnap(t, events))

	// Claims and allotments as many as can be: an invoice, a payment, and all else allotments of it.
	events = append(opened(), invoice(d, "i", ann, work, d, 2000), pay(d, "p", ann, bank, 2000))
	for n := len(events); n < api.MaxEvents; n++ {
		events = append(events, allot(d+n%3, "a"+strconv.Itoa(n), "p", "i", 1))
	}
	s = behind(t, events)
	has(t, s, plainSnap(t, events))
	has(t, from(t, s.Snap()), plainSnap(t, events))
}

// TestP12_1Turnover: up to its bound no view refuses, in whichever way the amounts lie.
func TestP12_1Turnover(t *testing.T) {
	const half = 1<<62 - 1
	for _, events := range [][]api.Event{
		{post(d, "x", line(bank, half), line(ann, -half))},
		{post(d, "x", line(bank, -half), line(ann, half))},
		{invoice(d, "i", ann, work, d, half)},
		{pay(d, "p", ann, bank, half)},
		{post(d+1, "x", line(bank, half/2), line(ann, -(half/2))), void(d+1, "v", "x")},
		{post(d+1, "x", line(bank, half/2), line(ann, -(half/2))), post(d, "y", line(bank, half/2), line(ann, -(half/2)))},
		{invoice(d, "i", ann, work, d, half/2), invoice(d, "j", ann, work, d, half/2+1), allot(d, "a", "p", "i", 1)},
		{invoice(d, "i", ann, work, d, half/2), pay(d, "p", ann, bank, half/2), allot(d, "a", "p", "i", half/2)},
	} {
		x := &both{t: t, s: behind(t, opened()), taken: opened()}
		for _, e := range events {
			x.tell(e)
		}
		x.tell(post(d, "z", line(bank, 1), line(ann, -1)))
		x.tell(post(d, "zz", line(bank, half), line(ann, -half)))
		has(t, from(t, x.s.Snap()), plainSnap(t, x.taken))
	}
}

// TestP12_2Parts: always the same ones, and the set's own.
func TestP12_2Parts(t *testing.T) {
	s := New()
	books, held, days, owed := s.Book(), s.Sums(), s.Daily(), s.Aged()
	for _, e := range story() {
		s.Apply(e)
		if s.Book() != books || s.Sums() != held || s.Daily() != days || s.Aged() != owed {
			t.Fatal("the parts are others than before")
		}
	}
	want := plainSnap(t, story())
	if books.Len() != len(story()) || !alike(held.State(), want.Balances) || !alike(days.State(), want.Days) || !alike(owed.Claims(), want.Claims) {
		t.Error("what was handed out ahead does not tell what came behind it")
	}
	if n := held.Rollup("Assets"); n != 10000+70+1+7-7 {
		t.Errorf("Rollup: %d", n)
	}
	if n := days.At(bank, d+30); n != -500+500+6000+7 {
		t.Errorf("At: %d", n)
	}
	if n, is := books.Left("p1"); n != 500 || !is {
		t.Errorf("Left: %d, %v", n, is)
	}
	if got := owed.Now(ann); got != (api.Ages{0, 1, 4500, 0, 0}) {
		t.Errorf("Now: %v", got)
	}
	// Asking them changes nothing.
	held.Trial()
	held.Totals()
	days.Between(bank, least, greatest)
	owed.Open(ann, d+60)
	books.Check(lock(api.MaxDay))
	has(t, s, want)
}
