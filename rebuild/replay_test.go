package rebuild

import (
	"testing"

	"daybook/api"
	"daybook/disk"
	"daybook/event"
	"daybook/store"
)

func TestP12_4From(t *testing.T) {
	events := story()
	for _, segment := range []int{api.MinSegment, 200, api.MaxSegment} {
		l, _ := logOf(t, segment, events)
		for n := range len(events) + 1 {
			s := behind(t, events[:n])
			was := s.Snap()
			for _, wrong := range []int{-1, -2, least, len(events) + 1, len(events) + 2, greatest} {
				if why := s.Replay(l, wrong); why != api.ErrArg {
					t.Errorf("Replay from %d: %d", wrong, why)
				}
			}
			if why := s.Replay(l, len(events)); why != api.OK {
				t.Errorf("Replay from the log's end: %d", why)
			}
			has(t, s, was)
			if why := s.Replay(l, n); why != api.OK {
				t.Errorf("Replay from %d: %d", n, why)
			}
			has(t, s, plainSnap(t, events))
		}
	}
}

// TestP12_4Refused: what was taken ahead of a record that can't be stays, and nothing behind it is.
func TestP12_4Refused(t *testing.T) {
	events := story()
	for n := range len(events) + 1 {
		for what, c := range map[string]struct {
			rec  []byte
			want api.Errno
		}{
			"no event's bytes":    {[]byte("x"), api.ErrEvent},
			"no bytes":            {nil, api.ErrEvent},
			"no valid event":      {[]byte{api.KLock, 0}, api.ErrEvent},
			"bytes behind":        {[]byte{api.KLock, 1, 0}, api.ErrEvent},
			"an unknown parent":   {encoded(t, open(d+100, "No:Parent", 0)), api.ErrUnknown},
			"no such payment":     {encoded(t, allot(d+100, "zz", "no", "i1", 1)), api.ErrRef},
			"an unknown customer": {encoded(t, invoice(d+100, "zz", "No", work, d+100, 1)), api.ErrUnknown},
		} {
			l, _ := logOf(t, 200, events[:n])
			addBytes(t, l, c.rec)
			for _, e := range events[n:] {
				add(t, l, e)
			}
			for _, first := range []int{0, n / 2, n} {
				s := behind(t, events[:first])
				if why := s.Replay(l, first); why != c.want {
					t.Errorf("%s as record %d, from %d: %d, want %d", what, n, first, why, c.want)
				}
				has(t, s, plainSnap(t, events[:n]))
				if why := s.Replay(l, n); why != c.want {
					t.Errorf("%s as record %d, again: %d, want %d", what, n, why, c.want)
				}
				has(t, s, plainSnap(t, events[:n]))
				if why := s.Replay(l, n+1); why != api.OK {
					t.Errorf("behind record %d: %d", n, why)
				}
				has(t, s, plainSnap(t, events))
			}
		}
	}
}

func encoded(t *testing.T, e api.Event) []byte {
	t.Helper()
	b, why := event.Encode(e)
	if why != api.OK {
		t.Fatal(why)
	}
	return b
}

// TestP12_4Again: events that the set has taken already are refused, and change nothing.
func TestP12_4Again(t *testing.T) {
	events := story()
	l, _ := logOf(t, 4096, events)
	s := behind(t, events)
	for n := range events {
		if why := s.Replay(l, n); why == api.OK {
			t.Errorf("from %d: taken again", n)
		}
		has(t, s, plainSnap(t, events))
	}
	// A record ahead of which others are missing.
	s = New()
	if why := s.Replay(l, 1); why != api.ErrUnknown {
		t.Errorf("from 1: %d", why)
	}
	has(t, s, api.Snap{AsOf: 1})
}

// fail makes a disk fail in somebody else's call.
func fail(t *testing.T, disk *disk.Disk) {
	t.Helper()
	disk.Fuse(0)
	if why := disk.Create("else"); why != api.ErrDown {
		t.Fatal(why)
	}
}

// TestP12_4Down: a log that has met a failure answers it; the set does not go down with it.
func TestP12_4Down(t *testing.T) {
	events := story()
	l, disk := logOf(t, 200, events)
	s := behind(t, events[:5])
	fail(t, disk)
	for range 2 {
		for what, c := range map[int]api.Errno{-1: api.ErrArg, 5: api.ErrDown, len(events): api.OK, len(events) + 1: api.ErrArg} {
			if why := s.Replay(l, what); why != c {
				t.Errorf("Replay from %d: %d, want %d", what, why, c)
			}
			has(t, s, plainSnap(t, events[:5]))
		}
		disk.Crash(nil) // the disk is up again, the log is not
	}
	for _, e := range events[5:] {
		if why := s.Apply(e); why != api.OK {
			t.Errorf("Apply: %d", why)
		}
	}
	has(t, s, plainSnap(t, events))
	l, why := store.Open(disk, 200)
	if why != api.OK {
		t.Fatal(why)
	}
	s = New()
	if why := s.Replay(l, 0); why != api.OK {
		t.Errorf("a log that was opened anew: %d", why)
	}
	has(t, s, plainSnap(t, events))
}

// TestP12_4Log: files that somebody else has been at, in the midst.
func TestP12_4Log(t *testing.T) {
	events := story()
	l, disk := logOf(t, 200, events)
	second := l.Segments()[1]
	disk.Remove("log-000002")
	s := New()
	for range 2 {
		if why := s.Replay(l, s.Book().Len()); why != api.ErrLog {
			t.Errorf("a segment is missing: %d", why)
		}
		has(t, s, plainSnap(t, events[:second.First]))
	}
}

// TestP12_4Disk: a Replay makes no changing call, and leaves the log as it was.
func TestP12_4Disk(t *testing.T) {
	events := story()
	l, disk := logOf(t, 200, events)
	disk.Fuse(0)
	was, segments := disk.State(), l.Segments()
	s := New()
	if why := s.Replay(l, 0); why != api.OK {
		t.Fatal(why)
	}
	s.Replay(l, 3)
	s.Replay(l, -1)
	if !alike(disk.State(), was) || !alike(l.Segments(), segments) || l.Len() != len(events) {
		t.Error("the disk or the log was changed")
	}
}
