package rebuild

import (
	"runtime"
	"slices"
	"testing"

	"daybook/api"
	"daybook/store"
)

// steps: what a Step answers, and where the job stands behind it.
func steps(t *testing.T, j *Job, k int, made bool, want api.Errno, at int) {
	t.Helper()
	if m, why := j.Step(k); m != made || why != want || j.At() != at {
		t.Fatalf("Step(%d): %v, %d, want %v, %d; At %d, want %d", k, m, why, made, want, j.At(), at)
	}
}

func TestP12_5Begin(t *testing.T) {
	l, _ := logOf(t, 200, story())
	j := Begin(l)
	for range 2 {
		if j.At() != 0 || j.Set() != nil {
			t.Errorf("At %d, Set %v", j.At(), j.Set())
		}
	}
	if j == Begin(l) {
		t.Error("two jobs are one")
	}
}

// TestP12_5Set: none ahead of the answer true, though all records are taken; then always the same one.
func TestP12_5Set(t *testing.T) {
	events := story()
	l, _ := logOf(t, 200, events)
	j := Begin(l)
	for n := range events {
		if j.Set() != nil {
			t.Fatalf("a set at %d", n)
		}
		steps(t, j, 1, false, api.OK, n+1)
	}
	if j.Set() != nil {
		t.Fatal("a set ahead of the answer true")
	}
	steps(t, j, 0, false, api.ErrArg, len(events))
	if j.Set() != nil {
		t.Fatal("a set behind a Step that was refused")
	}
	steps(t, j, 1, true, api.OK, len(events))
	s := j.Set()
	has(t, s, plainSnap(t, events))
	// What others do with the set is not what the job has taken.
	if why := s.Apply(lock(d + 99)); why != api.OK {
		t.Fatal(why)
	}
	for range 3 {
		steps(t, j, 1, true, api.OK, len(events))
		if j.Set() != s {
			t.Error("another set")
		}
	}
	has(t, j.Set(), plainSnap(t, append(events, lock(d+99))))
}

// TestP12_6Arg: a size below 1 is refused wherever the job stands, and changes nothing.
func TestP12_6Arg(t *testing.T) {
	n := len(story())
	l, _ := logOf(t, 200, story())
	j := Begin(l)
	refuses := func(at int, made bool) {
		t.Helper()
		for _, k := range []int{0, -1, -7, least} {
			steps(t, j, k, false, api.ErrArg, at)
			if (j.Set() != nil) != made {
				t.Errorf("at %d: a set %v", at, !made)
			}
		}
	}
	refuses(0, false)
	steps(t, j, 7, false, api.OK, 7)
	refuses(7, false)
	steps(t, j, greatest, false, api.OK, n)
	refuses(n, false)
	steps(t, j, greatest, true, api.OK, n)
	refuses(n, true)
	has(t, j.Set(), plainSnap(t, story()))
}

// TestP12_6Sizes: one, as many as there are, one more and less, and far more.
func TestP12_6Sizes(t *testing.T) {
	events := story()
	n := len(events)
	l, _ := logOf(t, 200, events)
	for _, k := range []int{1, 2, n - 1, n, n + 1, 10 * n, greatest} {
		j := Begin(l)
		for at := 0; at < n; {
			at += min(k, n-at)
			steps(t, j, k, false, api.OK, at)
		}
		steps(t, j, k, true, api.OK, n)
		has(t, j.Set(), plainSnap(t, events))
	}
}

// TestP12_6Made: behind the answer true nothing is taken any more, however the log grows.
func TestP12_6Made(t *testing.T) {
	for _, first := range []int{0, 7} {
		events := story()
		l, _ := logOf(t, 200, events[:first])
		j := Begin(l)
		if first > 0 {
			steps(t, j, first, false, api.OK, first)
		}
		steps(t, j, 1, true, api.OK, first)
		s := j.Set()
		for _, e := range events[first:] {
			add(t, l, e)
			steps(t, j, 5, true, api.OK, first)
			if j.Set() != s {
				t.Fatal("another set")
			}
		}
		addBytes(t, l, []byte("x"))
		steps(t, j, 5, true, api.OK, first)
		has(t, s, plainSnap(t, events[:first]))
	}
}

// TestP12_6Stands: at a record that can't be taken, tried again by each Step, with what was taken ahead of it.
func TestP12_6Stands(t *testing.T) {
	events := story()
	for n := range len(events) + 1 {
		for _, c := range []struct {
			rec  []byte
			want api.Errno
		}{{[]byte("x"), api.ErrEvent}, {nil, api.ErrEvent}, {encoded(t, open(d+100, "No:Parent", 0)), api.ErrUnknown}, {encoded(t, allot(d+100, "zz", "no", "i1", 1)), api.ErrRef}} {
			for _, k := range []int{1, 3, n + 1, 1000} {
				l, _ := logOf(t, 200, events[:n])
				addBytes(t, l, c.rec)
				for _, e := range events[n:] {
					add(t, l, e)
				}
				j := Begin(l)
				for j.At()+k <= n {
					steps(t, j, k, false, api.OK, j.At()+k)
				}
				for range 3 {
					steps(t, j, k, false, c.want, n)
					steps(t, j, 1, false, c.want, n)
					steps(t, j, 0, false, api.ErrArg, n)
				}
				if j.Set() != nil {
					t.Errorf("record %d: a set", n)
				}
				has(t, &j.set, plainSnap(t, events[:n]))
			}
		}
	}
}

// TestP12_6TriedAgain: a record that comes back is taken by the next Step.
func TestP12_6TriedAgain(t *testing.T) {
	events := story()
	l, disk := logOf(t, 200, events)
	second := l.Segments()[1]
	b, why := disk.Read("log-000002", 0, second.Bytes)
	if why != api.OK {
		t.Fatal(why)
	}
	disk.Remove("log-000002")
	j := Begin(l)
	for range 3 {
		steps(t, j, 1000, false, api.ErrLog, second.First)
	}
	disk.Create("log-000002")
	disk.Append("log-000002", b)
	steps(t, j, second.Count, false, api.OK, second.First+second.Count)
	steps(t, j, 1000, false, api.OK, len(events))
	steps(t, j, 1000, true, api.OK, len(events))
	has(t, j.Set(), plainSnap(t, events))
}

// TestP12_6Down: of a log that has met a failure nothing more is read; a job that has taken all is at the end all the same.
func TestP12_6Down(t *testing.T) {
	events := story()
	for _, at := range []int{0, 1, 7, len(events) - 1, len(events)} {
		l, disk := logOf(t, 200, events)
		j := Begin(l)
		if at > 0 {
			steps(t, j, at, false, api.OK, at)
		}
		fail(t, disk)
		for range 3 {
			if at < len(events) {
				steps(t, j, 3, false, api.ErrDown, at)
				disk.Crash(nil)
				if j.Set() != nil {
					t.Error("a set")
				}
			} else {
				steps(t, j, 3, true, api.OK, at)
				has(t, j.Set(), plainSnap(t, events))
			}
			steps(t, j, 0, false, api.ErrArg, at)
		}
		has(t, &j.set, plainSnap(t, events[:at]))
	}
	// The log met it by itself, in an Append.
	l, disk := logOf(t, 4096, events)
	disk.Fuse(1)
	if why := l.Append([]byte("x")); why != api.ErrDown {
		t.Fatal(why)
	}
	j := Begin(l)
	steps(t, j, 3, false, api.ErrDown, 0)
	steps(t, j, 3, false, api.ErrDown, 0)
}

// TestP12_6Growing: what comes between the steps is taken by later ones.
func TestP12_6Growing(t *testing.T) {
	events := story()
	for k := 1; k < 9; k++ {
		for coming := range k { // fewer a step than are taken
			l, _ := logOf(t, 200, events[:5])
			j := Begin(l)
			for at := 0; at < l.Len(); {
				at = min(at+k, l.Len())
				steps(t, j, k, false, api.OK, at)
				for range min(coming, len(events)-l.Len()) {
					add(t, l, events[l.Len()])
				}
				if j.Set() != nil {
					t.Fatal("a set")
				}
			}
			steps(t, j, k, true, api.OK, l.Len())
			has(t, j.Set(), plainSnap(t, events[:l.Len()]))
			s := New()
			if why := s.Replay(l, 0); why != api.OK || !alike(s.Snap(), j.Set().Snap()) {
				t.Errorf("Replay makes another one: %d", why)
			}
		}
	}
}

// TestP12_9Calls: true at the call number n divided by k, rounded up, plus one, and at none before.
func TestP12_9Calls(t *testing.T) {
	events := story()
	for n := range len(events) + 1 {
		l, _ := logOf(t, 300, events[:n])
		for k := 1; k <= n+2; k++ {
			j := Begin(l)
			want := (n+k-1)/k + 1
			for call := 1; call <= want+2; call++ {
				if made, why := j.Step(k); made != (call >= want) || why != api.OK || (j.Set() != nil) != made {
					t.Fatalf("%d records, steps of %d: call %d answers %v, %d", n, k, call, made, why)
				}
			}
			has(t, j.Set(), plainSnap(t, events[:n]))
		}
	}
}

// TestP12_9Most: a log with as many events as books take.
func TestP12_9Most(t *testing.T) {
	events := mostEvents()
	l, _ := logOf(t, 4096, events)
	want := plainSnap(t, events)
	for _, k := range []int{1, 7, 333, 1000, 5000} {
		j := Begin(l)
		calls := 1
		for made, why := j.Step(k); !made; made, why = j.Step(k) {
			if calls++; why != api.OK || calls > 1001 {
				t.Fatalf("call %d: %d", calls, why)
			}
		}
		if calls != (1000+k-1)/k+1 {
			t.Errorf("steps of %d: true at call %d", k, calls)
		}
		has(t, j.Set(), want)
	}
	add(t, l, lock(d+2000))
	j := Begin(l)
	steps(t, j, 2000, false, api.ErrMany, 1000)
	steps(t, j, 2000, false, api.ErrMany, 1000)
}

// TestP12_10Turns: two jobs and two sets over one log, in turns, know nothing of one another.
func TestP12_10Turns(t *testing.T) {
	events := story()
	n := len(events)
	l, _ := logOf(t, 200, events)
	one, two := Begin(l), Begin(l)
	live, early := behind(t, events), behind(t, events[:9])
	liveWas, earlyWas := live.Snap(), early.Snap()
	for at := 0; at < n; at++ {
		steps(t, one, 1, false, api.OK, at+1)
		if want := min(n, 3*(at+1)); two.At() < n {
			steps(t, two, 3, false, api.OK, want)
		} else {
			steps(t, two, 3, true, api.OK, n)
		}
		has(t, live, liveWas)
		has(t, early, earlyWas)
	}
	if one.Set() != nil || two.Set() == nil {
		t.Errorf("sets: %v, %v", one.Set(), two.Set())
	}
	if why := early.Replay(l, 9); why != api.OK {
		t.Error(why)
	}
	steps(t, one, 1, true, api.OK, n)
	if one.Set() == two.Set() {
		t.Fatal("the two jobs made one set")
	}
	if why := one.Set().Apply(lock(d + 99)); why != api.OK {
		t.Error(why)
	}
	for _, s := range []*Set{two.Set(), live, early} {
		has(t, s, plainSnap(t, events))
	}
	has(t, one.Set(), plainSnap(t, append(events, lock(d+99))))
}

// TestP12_10Disk: a job makes no changing call, and leaves the log as it was.
func TestP12_10Disk(t *testing.T) {
	events := story()
	l, disk := logOf(t, 200, events)
	disk.Fuse(0)
	was, segments := disk.State(), l.Segments()
	j := Begin(l)
	for made := false; !made; made, _ = j.Step(4) {
		if !alike(disk.State(), was) || !alike(l.Segments(), segments) || l.Len() != len(events) {
			t.Fatalf("the disk or the log was changed, at %d", j.At())
		}
	}
	if !alike(disk.State(), was) || !alike(l.Segments(), segments) {
		t.Error("the disk or the log was changed at the end")
	}
	for i, e := range events {
		if b, why := l.Read(i); why != api.OK || !slices.Equal(b, encoded(t, e)) {
			t.Errorf("record %d: %d", i, why)
		}
	}
	disk.Fuse(-1)
	again, why := store.Open(disk, 200)
	if why != api.OK || again.Len() != len(events) {
		t.Errorf("opened anew: %d", why)
	}
}

// TestP12_10LeavesNothing: whether a job is stepped to its end or not, stands at an error, or is never stepped.
func TestP12_10LeavesNothing(t *testing.T) {
	l, _ := logOf(t, 200, story())
	spoilt, _ := logOf(t, 200, story())
	addBytes(t, spoilt, []byte("x"))
	was := runtime.NumGoroutine()
	for range 200 {
		for _, k := range []int{0, 1, 5, len(story()), 1000} {
			Begin(l)
			Begin(l).Step(k)
			j := Begin(spoilt)
			j.Step(k)
			j.Step(k)
		}
	}
	if now := runtime.NumGoroutine(); now > was+20 {
		t.Errorf("%d goroutines are left behind", now-was)
	}
}

// TestNobodyBegan: a job without a log has none to take.
func TestNobodyBegan(t *testing.T) {
	j := &Job{}
	steps(t, j, 0, false, api.ErrArg, 0)
	if j.Set() != nil {
		t.Error("a set")
	}
	steps(t, j, 1, true, api.OK, 0)
	has(t, j.Set(), New().Snap())
}

// TestP12_9Segments: what the log's segments are, and whether it was opened anew, is not seen.
func TestP12_9Segments(t *testing.T) {
	events := story()
	for _, segment := range []int{64, 65, 100, 333, 65536} {
		l, disk := logOf(t, segment, events)
		again, why := store.Open(disk, 64)
		if why != api.OK {
			t.Fatal(why)
		}
		for _, l := range []*store.Log{l, again} {
			j := Begin(l)
			steps(t, j, 10, false, api.OK, 10)
			steps(t, j, 100, false, api.OK, len(events))
			steps(t, j, 10, true, api.OK, len(events))
			has(t, j.Set(), plainSnap(t, events))
		}
	}
}
