package ledger

import (
	"fmt"
	"slices"
	"testing"

	"daybook/api"
	"daybook/disk"
	"daybook/event"
	"daybook/paper"
)

// run plays events on a ledger, in each way, with checkpoints, trims and rebuilds between them, until the power fails.
type run struct {
	t       *testing.T
	l       *Ledger
	taken   []api.Event // those that were answered
	perhaps []api.Event // the one that met ErrDown
}

// goesOn: whether the power is there behind a call.
func (r *run) goesOn(what string, why api.Errno) bool {
	r.t.Helper()
	if why != api.OK && why != api.ErrDown {
		r.t.Fatalf("%s: error %d", what, int(why))
	}
	return why == api.OK
}

// submit takes some events, one by one.
func (r *run) submit(events []api.Event) bool {
	for i, e := range events {
		why := api.OK
		if i%2 == 0 {
			_, why = r.l.Submit(e)
		} else {
			s, _ := event.Print(e, 2)
			_, why = r.l.Text(s)
		}
		if !r.goesOn("Submit", why) {
			r.perhaps = []api.Event{e}
			return false
		}
		r.taken = append(r.taken, e)
	}
	return true
}

// load imports some events.
func (r *run) load(events []api.Event) bool {
	s, _ := paper.Print(events, 2)
	n, err := r.l.Import(s)
	r.taken = append(r.taken, events[:n]...)
	if err == nil {
		return true
	}
	same(r.t, "Import", err, error(api.ErrDown))
	r.perhaps = []api.Event{events[n]}
	return false
}

// play: false, if the power failed.
func (r *run) play(events []api.Event) bool {
	for i, part := range slices.Collect(slices.Chunk(events, 4)) {
		_, rebuilt := r.l.Rebuild(3) // reads alone: the power does not fail in it
		want(r.t, "Rebuild", rebuilt, api.OK)
		ok := false
		if i%3 == 2 {
			ok = r.load(part)
		} else {
			ok = r.submit(part)
		}
		if ok && i%2 == 1 {
			ok = r.goesOn("Snapshot", r.l.Snapshot())
		}
		if ok && i%3 == 1 {
			_, why := r.l.Trim(1)
			ok = r.goesOn("Trim", why)
		}
		if !ok {
			return false
		}
	}
	return true
}

// TestP3EveryCall: the power fails at each changing call of the disk, one run for each, and a crash leaves what it may: what was answered is there, and perhaps one event more.
func TestP3EveryCall(t *testing.T) {
	events := append(story(), later()...)
	for _, segment := range []int{64, 300} {
		more, lost := 0, 0
		for fuse := 0; ; fuse++ {
			x := newDisk(t, api.MaxDisk)
			r := &run{t: t, l: on(t, x, segment)}
			want(t, "Fuse", x.Fuse(fuse), api.OK)
			if r.play(events) {
				if fuse < 100 {
					t.Errorf("only %d calls", fuse)
				}
				break
			}
			same(t, "Len", r.l.Len(), len(r.taken))
			for i, keep := range [][]int{nil, {1}, {3, 0, 11}, {9}, {25, 1}, {1 << 20}} {
				if recovers(t, crashed(t, x, keep...), r, events, (fuse+i)%5 == 0) {
					more++
				} else {
					lost++
				}
			}
			isDown(t, r.l, x)
		}
		if more < 20 || lost < 100 {
			t.Errorf("of the events that met ErrDown %d were there, %d not", more, lost)
		}
	}
}

// recovers: what Open finds is what was answered, or that and the event that met ErrDown (true); from there all goes on to the end.
func recovers(t *testing.T, x *disk.Disk, r *run, events []api.Event, toTheEnd bool) bool {
	t.Helper()
	l := on(t, x, 150)
	more := l.Len() > len(r.taken)
	found := slices.Clone(r.taken)
	if more {
		found = append(found, r.perhaps...)
	}
	has(t, l, api.Progress{Of: len(found)}, false)
	alike(t, "behind the crash", l, behind(t, found))
	if toTheEnd {
		takes(t, l, events[len(found):])
		alike(t, "gone on", l, behind(t, events))
		alike(t, "gone on, opened anew", on(t, x, 64), behind(t, events))
	}
	return more
}

// TestP3Opening: the power fails within Open.
func TestP3Opening(t *testing.T) {
	for fuse := 0; ; fuse++ {
		x := newDisk(t, 1000)
		want(t, "Fuse", x.Fuse(fuse), api.OK)
		l, why := Open(x, api.Settings{Segment: 64, Digits: 2})
		if why == api.OK {
			same(t, "calls", fuse, 5)
			break
		}
		want(t, "Open", why, api.ErrDown)
		same(t, "Open", l, nil)
		for keep := range 16 {
			y := crashed(t, x, keep)
			m := on(t, y, 64)
			alike(t, "behind the crash", m, behind(t, nil))
			takes(t, m, first())
		}
	}
}

// TestP3KeyIsFree: an event that was not written whole is gone: its key, with another event, can be used, and its account opened.
func TestP3KeyIsFree(t *testing.T) {
	for _, c := range []struct{ lost, then api.Event }{
		{post(d+81, "n", line(bank, 5), line(ann, -5)), invoice(d+82, "n", ann, work, d+90, 44)},
		{opens(d+81, "New", api.Asset), opens(d+82, "New", api.Equity)},
		{lock(d + 81), lock(d + 80)},
		{allot(d+81, "n", "p1", "i1", 500), allot(d+81, "n", "p1", "i1", 499)},
		{void(d+81, "n", "x2"), void(d+82, "m", "x2")},
		{pay(d+81, "n", ann, bank, 5), pay(d+82, "n", cust, bank, 6)},
	} {
		l, x := kept(t, 4096, story())
		want(t, "Fuse", x.Fuse(1), api.OK)
		_, why := l.Submit(c.lost)
		want(t, "Submit", why, api.ErrDown)
		bytes := len(data(x, "log-000001")) - len(data(crashed(t, x), "log-000001"))
		for keep := range bytes + 1 {
			m := on(t, crashed(t, x, keep), 4096)
			if keep < bytes {
				takes(t, m, []api.Event{c.then})
				alike(t, fmt.Sprintf("behind %+v", c.then), m, behind(t, append(story(), c.then)))
			} else {
				alike(t, fmt.Sprintf("behind %+v", c.lost), m, behind(t, append(story(), c.lost)))
			}
		}
	}
}

// TestP3AgainAndAgain: crashes one behind the other, the power failing at any call.
func TestP3AgainAndAgain(t *testing.T) {
	events := append(story(), later()...)
	for seed := range uint64(40) {
		r := source(seed)
		x := newDisk(t, api.MaxDisk)
		l := on(t, x, 64)
		for crashes := 0; ; crashes++ {
			n := l.Len()
			alike(t, "behind the crash", l, behind(t, events[:n]))
			want(t, "Fuse", x.Fuse(r.IntN(30)), api.OK)
			p := &run{t: t, l: l}
			if p.play(events[n:]) {
				break
			}
			x.Crash([]int{r.IntN(40), r.IntN(10), r.IntN(100)})
			l = on(t, x, 64+r.IntN(200))
			if got := l.Len() - n; got != len(p.taken) && got != len(p.taken)+len(p.perhaps) {
				t.Fatalf("%d events more, %d were answered", got, len(p.taken))
			}
		}
		alike(t, "in the end", l, behind(t, events))
	}
}
