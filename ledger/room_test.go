package ledger

import (
	"fmt"
	"testing"

	"daybook/api"
	"daybook/ckpt"
	"daybook/disk"
)

// full: a ledger whose disk has had no room for a lock, and the disk.
func full(t *testing.T) (*Ledger, *disk.Disk) {
	t.Helper()
	x := newDisk(t, 700)
	l := on(t, x, 64)
	takes(t, l, first())
	fill(t, l)
	return l, x
}

// fill: locks are taken until there is no room for one.
func fill(t *testing.T, l *Ledger) {
	t.Helper()
	for n := 1; ; n++ {
		e := lock(n)
		if l.set.Book().Lock() >= n {
			continue
		}
		was, model := l.Len(), told(l)
		got, why := l.Submit(e)
		if why == api.OK {
			continue
		}
		want(t, "Submit", why, api.ErrFull)
		same(t, "Submit", got, 0)
		same(t, "Len", l.Len(), was)
		same(t, "what it tells", told(l), model)
		has(t, l, api.Progress{Of: was}, true)
		return
	}
}

// refusesAll: each way to submit is refused as read only, whatever is submitted.
func refusesAll(t *testing.T, l *Ledger, x *disk.Disk) {
	t.Helper()
	was := shown(x)
	for _, e := range []api.Event{lock(api.MaxDay), {}, lock(0), opens(d, "Assets", api.Asset), opens(d+100, "Zzz", api.Asset), post(d+100, "new", line(bank, 1), line(ann, -1))} {
		n, why := l.Submit(e)
		want(t, "Submit", why, api.ErrReadOnly)
		same(t, "Submit", n, 0)
	}
	for _, s := range []string{"", "lock 9999-12-31", "no event", string(make([]byte, 3000))} {
		n, why := l.Text(s)
		want(t, "Text", why, api.ErrReadOnly)
		same(t, "Text", n, 0)
	}
	for _, s := range []string{"", "lock 9999-12-31\n", "no event\n", string(make([]byte, 500000))} {
		n, err := l.Import(s)
		same(t, "Import", n, 0)
		same(t, "Import", err, error(api.ErrReadOnly))
	}
	same(t, "the disk", shown(x), was)
}

func TestP18_16Room(t *testing.T) {
	l, x := full(t)
	refusesAll(t, l, x)
	m := on(t, copied(t, x), 64) // the same events, and nothing else on the disk
	same(t, "what is told", told(l), told(m))

	// A rebuild and a checkpoint go on, as far as there is room; neither makes room.
	p, why := l.Rebuild(greatest)
	want(t, "Rebuild", why, api.OK)
	same(t, "Rebuild", p, api.Progress{Busy: true, At: l.Len(), Of: l.Len()})
	_, why = l.Rebuild(1)
	want(t, "Rebuild", why, api.OK)
	has(t, l, api.Progress{Gen: 1, Of: l.Len()}, true)
	want(t, "Snapshot", l.Snapshot(), api.ErrFull)
	refusesAll(t, l, x)

	// A Trim that removes nothing makes none.
	for _, keep := range []int{0, 1, greatest} {
		n, why := l.Trim(keep)
		want(t, "Trim", why, api.OK)
		same(t, "Trim", n, 0)
	}
	_, why = l.Trim(-1)
	want(t, "Trim", why, api.ErrArg)
	refusesAll(t, l, x)
	same(t, "what is told", told(l), told(m))
	alike(t, "opened anew", on(t, x, 64), m)
}

// TestP18_16TrimMakesRoom: behind a Trim that removes a file events are taken again, until the next one that has no room.
func TestP18_16TrimMakesRoom(t *testing.T) {
	x := newDisk(t, 1000)
	l := on(t, x, 64)
	takes(t, l, first())
	want(t, "Snapshot", l.Snapshot(), api.OK)
	fill(t, l)
	refusesAll(t, l, x)
	n, why := l.Trim(1) // keeps the one there is
	want(t, "Trim", why, api.OK)
	same(t, "Trim", n, 0)
	refusesAll(t, l, x)
	n, why = l.Trim(0)
	want(t, "Trim", why, api.OK)
	same(t, "Trim", n, 1)
	has(t, l, api.Progress{Of: l.Len()}, false)
	refuses(t, l, "open 2024-01-01 Assets asset", api.ErrExists) // by the books again
	was := l.Len()
	fill(t, l)
	if l.Len() <= was {
		t.Errorf("none more was taken behind %d", was)
	}
	refusesAll(t, l, x)

	// What a crash has left of a checkpoint is a file too.
	want(t, "Create", x.Create("ckpt.tmp"), api.OK)
	n, why = l.Trim(5)
	want(t, "Trim", why, api.OK)
	same(t, "Trim", n, 1)
	has(t, l, api.Progress{Of: l.Len()}, false)
	_, why = l.Submit(lock(api.MaxDay)) // there is no more room than before
	want(t, "Submit", why, api.ErrFull)
	has(t, l, api.Progress{Of: l.Len()}, true)
}

// TestP18_16Files: a disk that has no more files is full too.
func TestP18_16Files(t *testing.T) {
	x := newDisk(t, api.MaxDisk)
	for i := range api.MaxFiles - 5 {
		want(t, "Create", x.Create(fmt.Sprint("f", i)), api.OK)
	}
	l := on(t, x, 64)
	takes(t, l, first())
	want(t, "Snapshot", l.Snapshot(), api.OK)
	why := api.OK
	for n := 1; why == api.OK; n++ {
		_, why = l.Submit(post(d, fmt.Sprint("k", n), line(bank, 1), line(ann, -1)))
	}
	want(t, "Submit", why, api.ErrMany)
	has(t, l, api.Progress{Of: l.Len()}, true)
	refusesAll(t, l, x)
	was := told(l)
	n, why := l.Trim(0)
	want(t, "Trim", why, api.OK)
	same(t, "Trim", n, 1)
	has(t, l, api.Progress{Of: l.Len()}, false)
	same(t, "what is told", told(l), was)
	takes(t, l, []api.Event{lock(d)})
}

// TestP18_2Many: ErrMany of the books is no want of room.
func TestP18_2Many(t *testing.T) {
	x := newDisk(t, api.MaxDisk)
	l := on(t, x, 65536)
	for n := range api.MaxAccounts {
		takes(t, l, []api.Event{opens(d, fmt.Sprint("R", n), api.Asset)})
	}
	_, why := l.Submit(opens(d, "R100", api.Asset))
	want(t, "an account more", why, api.ErrMany)
	has(t, l, api.Progress{Of: l.Len()}, false)
	for n := l.Len(); n < api.MaxEvents; n++ {
		takes(t, l, []api.Event{post(d, fmt.Sprint("k", n), line("R1", 1), line("R2", -1))})
	}
	was := shown(x)
	for range 2 {
		_, why = l.Submit(post(d, "k", line("R1", 1), line("R2", -1)))
		want(t, "an event more", why, api.ErrMany)
		_, why = l.Submit(api.Event{})
		want(t, "no event", why, api.ErrEvent)
	}
	same(t, "the disk", shown(x), was)
	has(t, l, api.Progress{Of: 1000}, false)
	want(t, "Snapshot", l.Snapshot(), api.OK)
	same(t, "the files", names(x), "ckpt-001000 log log-000001")
	same(t, "opened anew", told(on(t, x, 64)), told(l))
}

// TestP18_9Full: a checkpoint for which there is no room makes nothing read only.
func TestP18_9Full(t *testing.T) {
	x := newDisk(t, 600)
	l := on(t, x, 4096)
	takes(t, l, first())
	takes(t, l, []api.Event{invoice(d, "i1", ann, work, d, 5), pay(d, "p1", ann, bank, 5)})
	b, _ := ckpt.Encode(behind(t, append(first(), invoice(d, "i1", ann, work, d, 5), pay(d, "p1", ann, bank, 5))).snap())
	if len(b) <= x.Free() {
		t.Fatalf("%d bytes are free for %d", x.Free(), len(b))
	}
	was := shown(x)
	want(t, "Snapshot", l.Snapshot(), api.ErrFull)
	same(t, "the disk", shown(x), was)
	has(t, l, api.Progress{Of: 8}, false)
	takes(t, l, []api.Event{lock(d)})
}
