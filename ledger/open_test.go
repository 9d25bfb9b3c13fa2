package ledger

import (
	"fmt"
	"slices"
	"testing"

	"daybook/api"
	"daybook/ckpt"
	"daybook/disk"
	"daybook/event"
	"daybook/store"
)

// notOpened: there is no ledger for this reason, and the disk is as it was.
func notOpened(t *testing.T, what string, x *disk.Disk, s api.Settings, why api.Errno) {
	t.Helper()
	was := ""
	if x != nil {
		was = shown(x)
	}
	l, got := Open(x, s)
	if l != nil || got != why {
		t.Errorf("%s: a ledger %v, error %d, want none, %d", what, l != nil, int(got), int(why))
	}
	if x != nil && shown(x) != was {
		t.Errorf("%s: the disk was changed", what)
	}
}

func TestP18_1Settings(t *testing.T) {
	good := api.Settings{Segment: 4096, Digits: 2}
	notOpened(t, "no disk", nil, good, api.ErrArg)
	down := newDisk(t, 1000)
	want(t, "Fuse", down.Fuse(0), api.OK)
	want(t, "Create", down.Create("a"), api.ErrDown)
	_, x := kept(t, 64, story())
	spoilt := withFile(t, x, "log", nil)
	for _, s := range []api.Settings{
		{Segment: 4096, Digits: -1}, {Segment: 4096, Digits: 7}, {Segment: 4096, Digits: least}, {Segment: 4096, Digits: greatest},
		{Segment: 63, Digits: 2}, {Segment: 65537, Digits: 2}, {Segment: 0, Digits: 2}, {Segment: -64, Digits: 2}, {Segment: least, Digits: 2}, {Segment: greatest, Digits: 2}, {Segment: 63, Digits: 7},
	} {
		notOpened(t, "no disk", nil, s, api.ErrArg)
		notOpened(t, fmt.Sprintf("%+v, an empty disk", s), newDisk(t, 1000), s, api.ErrArg)
		notOpened(t, fmt.Sprintf("%+v, a ledger's disk", s), x, s, api.ErrArg)
		notOpened(t, fmt.Sprintf("%+v, a disk that is down", s), down, s, api.ErrArg) // ahead of ErrDown
		notOpened(t, fmt.Sprintf("%+v, no log", s), spoilt, s, api.ErrArg)            // ahead of ErrLog
	}
	notOpened(t, "a disk that is down", down, good, api.ErrDown)
	notOpened(t, "no log", spoilt, good, api.ErrLog)
	for _, s := range []api.Settings{{Segment: 64}, {Segment: 65536, Digits: 6}, {Segment: 64, Digits: 6}, {Segment: 65536}, {Segment: 4096, Digits: 1}} {
		l, why := Open(newDisk(t, 1000), s)
		want(t, fmt.Sprintf("%+v", s), why, api.OK)
		texts(t, l, "open 2024-01-01 Assets asset")
		has(t, l, api.Progress{Of: 1}, false)
	}
}

// TestP18_1Begins: on a disk that has none.
func TestP18_1Begins(t *testing.T) {
	x := newDisk(t, 1000)
	l := on(t, x, 64)
	same(t, "the files", names(x), "log log-000001")
	alike(t, "a new ledger", l, behind(t, nil))
	has(t, l, api.Progress{}, false)

	// What the log answers to it is the answer.
	l, why := Open(newDisk(t, 14), api.Settings{Segment: 64})
	if want(t, "a disk of 14 bytes", why, api.ErrFull); l != nil {
		t.Error("there is a ledger")
	}
	x = newDisk(t, 1000)
	for i := range api.MaxFiles {
		want(t, "Create", x.Create(fmt.Sprint("f", i)), api.OK)
	}
	notOpened(t, "a disk with all its files", x, api.Settings{Segment: 64}, api.ErrMany)
	on(t, newDisk(t, 15), 64)
	// A Disk that nobody made has no room.
	_, why = Open(&disk.Disk{}, api.Settings{Segment: 64})
	if why == api.OK {
		t.Error("a disk that nobody made has room")
	}
}

// TestP18_1Anew: a ledger that is opened anew tells the same, changes nothing, and begins without a rebuild and not read only.
func TestP18_1Anew(t *testing.T) {
	events := story()
	for n := range len(events) + 1 {
		l, x := kept(t, 64, events[:n])
		if n > 0 {
			l.Rebuild(greatest)
			l.Rebuild(1)
			l.Rebuild(1)
			has(t, l, api.Progress{Gen: 1, Busy: true, At: 1, Of: n}, false)
		}
		was := shown(x)
		for _, segment := range []int{64, 300, 65536} {
			m := on(t, x, segment)
			alike(t, fmt.Sprint("behind ", n), m, behind(t, events[:n]))
			has(t, m, api.Progress{Of: n}, false)
		}
		same(t, "the disk", shown(x), was)
		m := on(t, x, 100)
		takes(t, m, events[n:])
		alike(t, "gone on", m, behind(t, events))
	}
	l, x := full(t)
	has(t, l, api.Progress{Of: l.Len()}, true)
	m := on(t, x, 64)
	has(t, m, api.Progress{Of: l.Len()}, false)
}

// logOf: a disk with a log of such records.
func logOf(t *testing.T, records ...[]byte) *disk.Disk {
	t.Helper()
	x := newDisk(t, api.MaxDisk)
	l, why := store.Open(x, 64)
	want(t, "store.Open", why, api.OK)
	for _, b := range records {
		want(t, "Append", l.Append(b), api.OK)
	}
	return x
}

// encoded: the events' records.
func encoded(t *testing.T, events []api.Event) (l [][]byte) {
	t.Helper()
	for _, e := range events {
		b, why := event.Encode(e)
		want(t, "Encode", why, api.OK)
		l = append(l, b)
	}
	return l
}

func TestP18_1LogAtFault(t *testing.T) {
	s := api.Settings{Segment: 64, Digits: 2}
	l, x := kept(t, 64, story())
	notOpened(t, "no index", withFile(t, x, "log", nil), s, api.ErrLog)
	notOpened(t, "no segment", withFile(t, x, "log-000002", nil), s, api.ErrLog)
	for _, name := range []string{"log", "log-000001", "log-000003"} {
		b := data(x, name)
		for at := 0; at < len(b)*8; at += 7 {
			turned := slices.Clone(b)
			turned[at/8] ^= 1 << (at % 8)
			notOpened(t, fmt.Sprint(name, " with bit ", at, " turned"), withFile(t, x, name, turned), s, api.ErrLog)
		}
	}
	// Also where a checkpoint knows all.
	want(t, "Snapshot", l.Snapshot(), api.OK)
	notOpened(t, "no segment", withFile(t, x, "log-000001", nil), s, api.ErrLog)

	good := encoded(t, story())
	for what, records := range map[string][][]byte{
		"no event's":               {[]byte("x")},
		"no bytes":                 {{}},
		"no event's at the end":    append(slices.Clone(good), []byte("x")),
		"no event's in the midst":  slices.Insert(slices.Clone(good), 5, []byte("x")),
		"an event and more":        append(slices.Clone(good), append(slices.Clone(good[0]), 0)),
		"refused":                  append(slices.Clone(good), good[0]),
		"refused at the beginning": good[1:],
		"refused in the midst":     slices.Delete(slices.Clone(good), 7, 8),
	} {
		notOpened(t, what, logOf(t, records...), s, api.ErrLog)
	}
	alike(t, "good records", on(t, logOf(t, good...), 64), behind(t, story()))
}

// TestP18_1Down: the power fails in somebody else's call, between those of an opening.
func TestP18_1Down(t *testing.T) {
	_, x := kept(t, 64, story())
	log, why := store.Open(x, 64)
	want(t, "store.Open", why, api.OK)
	failPower(t, x)
	for range 2 {
		set, why := recovered(x, log) // no checkpoints can be looked for
		want(t, "recovered", why, api.ErrDown)
		same(t, "recovered", set, nil)
		set, why = replayed(log) // no record can be read
		want(t, "replayed", why, api.ErrDown)
		same(t, "replayed", set, nil)
		x.Crash(nil)
		log, why = store.Open(x, 64)
		want(t, "store.Open", why, api.OK)
		failPower(t, x)
	}
}

// TestP18_1TooManyRecords: events that books take, but for their number.
func TestP18_1TooManyRecords(t *testing.T) {
	var events []api.Event
	for n := range api.MaxEvents + 1 {
		events = append(events, lock(n+1))
	}
	x := newDisk(t, api.MaxDisk)
	l, why := store.Open(x, 4096)
	want(t, "store.Open", why, api.OK)
	for i, b := range encoded(t, events) {
		want(t, "Append", l.Append(b), api.OK)
		if i+1 == api.MaxEvents {
			same(t, "Len", on(t, x, 4096).Len(), api.MaxEvents)
		}
	}
	s := api.Settings{Segment: 4096, Digits: 2}
	notOpened(t, "one more", x, s, api.ErrLog)
	notOpened(t, "one more and a checkpoint of the most", withCheckpoint(t, x, behind(t, events[:api.MaxEvents]).snap()), s, api.ErrLog)
}

// withCheckpoint: a disk like another one, with a checkpoint's file too.
func withCheckpoint(t *testing.T, x *disk.Disk, s api.Snap) *disk.Disk {
	t.Helper()
	b, why := ckpt.Encode(s)
	want(t, "Encode", why, api.OK)
	return withFile(t, x, ckpt.Name(s.Base.Events), b)
}

// forged: other books than those behind the story's first n events, but of as many: they can be told from them, and go on like them.
func forged(t *testing.T, n int) *plain {
	t.Helper()
	events := story()[:n]
	for i, e := range events {
		switch {
		case e.Key == "x1":
			events[i].Lines[0].Amount, events[i].Lines[1].Amount = 501, -501
		case e.Key == "i1":
			events[i].Amount = 10001
		case i == 0:
			events[i].Day = d - 1
		}
	}
	return behind(t, events)
}

// TestP18_1Checkpoint: one behind each number of events is taken, at its word, and the records behind it are replayed.
func TestP18_1Checkpoint(t *testing.T) {
	events := story()
	_, x := kept(t, 300, events)
	for n := range len(events) + 1 {
		alike(t, fmt.Sprint("with a checkpoint of ", n), on(t, withCheckpoint(t, x, behind(t, events[:n]).snap()), 300), behind(t, events))
		if n == 0 {
			continue
		}
		f := forged(t, n)
		m := on(t, withCheckpoint(t, x, f.snap()), 300)
		for _, e := range events[n:] {
			f = f.with(t, e)
		}
		for name, tell := range map[string]func(asked) string{
			"Trial":    func(l asked) string { r, why := l.Trial(); return fmt.Sprint(r, why) },
			"Accounts": func(l asked) string { r, why := l.Accounts(); return fmt.Sprint(r, why) },
			"Left":     func(l asked) string { r, why := l.Left("i1"); return fmt.Sprint(r, why) },
			"Daily":    func(l asked) string { r, why := l.Daily(bank, 1, api.MaxDay); return fmt.Sprint(r, why) },
		} {
			same(t, fmt.Sprint(name, " by a forged checkpoint of ", n), tell(m), tell(f))
		}
		same(t, "Len", m.Len(), len(events))
		// A rebuild makes the books of the records.
		m.Rebuild(greatest)
		m.Rebuild(1)
		alike(t, "rebuilt", m, behind(t, events))
	}
}

// TestP18_1CheckpointSpoilt: one that is cut, turned in a bit, missing, misnamed or of more events than there are is passed over; the next older one counts.
func TestP18_1CheckpointSpoilt(t *testing.T) {
	events := story()
	_, x := kept(t, 4096, events)
	truth, older := behind(t, events), forged(t, 12)
	for _, e := range events[12:] {
		older = older.with(t, e)
	}
	accounts := func(l asked) string { a, why := l.Accounts(); return fmt.Sprint(a, why) }
	if accounts(older) == accounts(truth) {
		t.Fatal("the older one can't be told from the truth")
	}
	b, _ := ckpt.Encode(behind(t, events[:20]).snap())
	spoilt := map[string][]byte{"missing": nil, "empty": {}, "longer": append(slices.Clone(b), 0)}
	for at := 0; at < len(b); at += 1 + at/20 {
		spoilt[fmt.Sprint("cut at ", at)] = b[:at]
	}
	for at := 0; at < len(b)*8; at += 1 + at/20 {
		turned := slices.Clone(b)
		turned[at/8] ^= 1 << (at % 8)
		spoilt[fmt.Sprint("with bit ", at, " turned")] = turned
	}
	y := withCheckpoint(t, x, forged(t, 12).snap())
	for what, b := range spoilt {
		alike(t, "alone, "+what, on(t, withFile(t, x, "ckpt-000020", b), 4096), truth)
		same(t, "an older one is there, "+what, accounts(on(t, withFile(t, y, "ckpt-000020", b), 4096)), accounts(older))
	}
	alike(t, "another one's", on(t, withFile(t, x, "ckpt-000019", b), 4096), truth)
	same(t, "an older one and another one's", accounts(on(t, withFile(t, y, "ckpt-000019", b), 4096)), accounts(older))
	many, _ := ckpt.Encode(behind(t, append(events, later()...)).snap())
	alike(t, "of more events", on(t, withFile(t, x, "ckpt-000037", many), 4096), truth)
	same(t, "an older one and one of more events", accounts(on(t, withFile(t, y, "ckpt-000037", many), 4096)), accounts(older))
	same(t, "the newest is good", accounts(on(t, withFile(t, y, "ckpt-000020", b), 4096)), accounts(truth))
}

// TestP18_1CheckpointRefused: the newest whole one does not count, if it is of no piece, or the records do not go on from it; then all records are replayed, whatever older ones there are.
func TestP18_1CheckpointRefused(t *testing.T) {
	events := story()
	_, x := kept(t, 4096, events)
	truth := behind(t, events)
	y := withCheckpoint(t, x, forged(t, 12).snap())
	good := behind(t, events[:20]).snap()
	for what, change := range map[string]func(*api.Snap){
		"its books can't be":         func(s *api.Snap) { s.Base.Lock = -1 },
		"a row more":                 func(s *api.Snap) { s.Base.Rows = append(s.Base.Rows, s.Base.Rows[0]) },
		"another balance":            func(s *api.Snap) { s.Balances[0].Own++ },
		"a day less":                 func(s *api.Snap) { s.Days = s.Days[1:] },
		"a claim less":               func(s *api.Snap) { s.Claims = s.Claims[1:] },
		"an allotment less":          func(s *api.Snap) { s.Allots = s.Allots[1:] },
		"no day":                     func(s *api.Snap) { s.AsOf = 0 },
		"a key that comes later too": func(s *api.Snap) { *s = otherBooks(t).snap() },
	} {
		s := behind(t, events[:20]).snap()
		change(&s)
		alike(t, "alone: "+what, on(t, withCheckpoint(t, x, s), 4096), truth)
		alike(t, "an older one is there: "+what, on(t, withCheckpoint(t, y, s), 4096), truth)
	}
	// Where the records can't be replayed either there is no ledger.
	bad := logOf(t, append(encoded(t, events[:20]), []byte("x"))...)
	notOpened(t, "the record behind it is no event's", withCheckpoint(t, bad, good), api.Settings{Segment: 4096, Digits: 2}, api.ErrLog)
}

// otherBooks: twenty events that are not all the story's, and from which it can't go on: a key of it is used.
func otherBooks(t *testing.T) *plain {
	t.Helper()
	return behind(t, append(story()[:19], post(d+47, "x4", line("Costs", 1), line(bank, -1))))
}

// TestP18_1CheckpointHides: behind a checkpoint that is taken at its word a record may be no event's: it is told where it is read.
func TestP18_1CheckpointHides(t *testing.T) {
	records := encoded(t, story())
	records[8] = []byte("x")
	x := withCheckpoint(t, logOf(t, records...), behind(t, story()[:20]).snap())
	l := on(t, x, 4096)
	same(t, "Len", l.Len(), 27)
	for n := 1; n <= 27; n++ {
		_, why := l.Event(n)
		if n == 9 {
			want(t, "Event", why, api.ErrLog)
		} else {
			want(t, "Event", why, api.OK)
		}
	}
	s, why := l.Export()
	want(t, "Export", why, api.ErrLog)
	same(t, "Export", s, "")
	for range 3 {
		p, why := l.Rebuild(8)
		want(t, "Rebuild", why, api.OK)
		same(t, "Rebuild", p, api.Progress{Busy: true, At: 8, Of: 27})
		p, why = l.Rebuild(8)
		want(t, "Rebuild", why, api.ErrEvent)
		same(t, "Rebuild", p, api.Progress{})
		has(t, l, api.Progress{Of: 27}, false) // there is no job any more, and the next one begins anew
	}
	trial, why := l.Trial()
	wanted, _ := behind(t, story()).Trial()
	want(t, "Trial", why, api.OK)
	same(t, "Trial", fmt.Sprint(trial), fmt.Sprint(wanted))
	takes(t, l, later())
}
