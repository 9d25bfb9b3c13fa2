package ledger

import (
	"fmt"
	"testing"

	"daybook/api"
)

// steps: a Rebuild answers this, and Status the same.
func steps(t *testing.T, l *Ledger, k int, p api.Progress) {
	t.Helper()
	got, why := l.Rebuild(k)
	want(t, fmt.Sprintf("Rebuild(%d)", k), why, api.OK)
	same(t, fmt.Sprintf("Rebuild(%d)", k), got, p)
	has(t, l, p, false)
}

// TestP18_11Steps: steps of each size, without events coming in: at which it is cut over, and that nothing is seen of it.
func TestP18_11Steps(t *testing.T) {
	events := story()
	for _, n := range []int{0, 1, 2, 7, len(events)} {
		l, x := kept(t, 200, events[:n])
		was, files := told(l), shown(x)
		for gen, k := range []int{1, 2, 3, 7, 26, 27, 28, 1000, greatest} {
			same(t, "Gen", status(l), fmt.Sprintf("%+v false", api.Progress{Gen: gen, Of: n}))
			at, cut := 0, 0
			for at < n {
				at += min(k, n-at)
				steps(t, l, k, api.Progress{Gen: gen, Busy: true, At: at, Of: n})
				cut++
				if cut < 4 {
					same(t, "what is told", told(l), was)
				}
			}
			steps(t, l, k, api.Progress{Gen: gen + 1, Of: n})
			same(t, "the steps", cut, (n-1+min(k, 1000))/min(k, 1000))
			same(t, "what is told", told(l), was)
		}
		same(t, "the disk", shown(x), files)
	}
}

// TestP18_11Wrong: a step that is none begins nothing, and ends nothing.
func TestP18_11Wrong(t *testing.T) {
	l, _ := kept(t, 200, story())
	wrong := func(p api.Progress) {
		t.Helper()
		for _, k := range []int{0, -1, least} {
			got, why := l.Rebuild(k)
			want(t, "Rebuild", why, api.ErrArg)
			same(t, "Rebuild", got, api.Progress{})
			has(t, l, p, false)
		}
	}
	wrong(api.Progress{Of: 27})
	steps(t, l, 5, api.Progress{Busy: true, At: 5, Of: 27})
	wrong(api.Progress{Busy: true, At: 5, Of: 27})
	steps(t, l, 5, api.Progress{Busy: true, At: 10, Of: 27})
	failPower(t, l.disk)
	wrong(api.Progress{Busy: true, At: 10, Of: 27}) // ahead of what the disk answers
	got, why := l.Rebuild(1)
	want(t, "Rebuild", why, api.ErrDown)
	same(t, "Rebuild", got, api.Progress{})
	has(t, l, api.Progress{Of: 27}, false) // there is no job any more
	_, why = l.Rebuild(0)
	want(t, "Rebuild", why, api.ErrDown)
}

// TestP18_11ComingIn: events come in between the steps, taken and refused, wherever.
func TestP18_11ComingIn(t *testing.T) {
	events := append(story(), later()...)
	for begin := range 12 {
		for _, k := range []int{1, 2, 5, 50} {
			l, _ := kept(t, 200, events[:begin])
			at, gen := 0, 0
			for n := begin; ; n++ {
				if at == n {
					gen, at = gen+1, 0
					steps(t, l, k, api.Progress{Gen: gen, Of: n})
				} else {
					at = min(at+k, n)
					steps(t, l, k, api.Progress{Gen: gen, Busy: true, At: at, Of: n})
				}
				if n == len(events) {
					break
				}
				if n%9 == 0 {
					alike(t, fmt.Sprint("behind ", n), l, behind(t, events[:n]))
				}
				takes(t, l, events[n:n+1])
				_, why := l.Submit(events[n])
				if why == api.OK {
					t.Fatalf("%+v is taken twice", events[n])
				}
			}
			alike(t, fmt.Sprint("from ", begin, " on, steps of ", k), l, behind(t, events))
		}
	}
}

// TestP18_11CutOver: the set from now on is the job's: it takes events and is checkpointed.
func TestP18_11CutOver(t *testing.T) {
	l, x := kept(t, 200, story())
	old := l.set
	l.Rebuild(27)
	if l.set != old {
		t.Error("the set is another one ahead of the cut-over")
	}
	l.Rebuild(1)
	if l.set == old || l.job != nil {
		t.Error("the set is not the job's")
	}
	takes(t, l, later())
	alike(t, "behind the cut-over", l, behind(t, append(story(), later()...)))
	want(t, "Snapshot", l.Snapshot(), api.OK)
	alike(t, "opened anew", on(t, x, 200), behind(t, append(story(), later()...)))
}

// TestP18_12Status: without a job, with one, read only, down.
func TestP18_12Status(t *testing.T) {
	l, x := kept(t, 200, nil)
	has(t, l, api.Progress{}, false)
	takes(t, l, first())
	has(t, l, api.Progress{Of: 6}, false)
	steps(t, l, 4, api.Progress{Busy: true, At: 4, Of: 6})
	takes(t, l, []api.Event{lock(d)})
	has(t, l, api.Progress{Busy: true, At: 4, Of: 7}, false)
	l.Submit(lock(d))
	has(t, l, api.Progress{Busy: true, At: 4, Of: 7}, false)
	want(t, "Fuse", x.Fuse(0), api.OK)
	_, why := l.Submit(lock(d + 1))
	want(t, "Submit", why, api.ErrDown)
	has(t, l, api.Progress{Busy: true, At: 4, Of: 7}, false) // as ever
	x.Crash(nil)
	has(t, l, api.Progress{Busy: true, At: 4, Of: 7}, false)
	m := on(t, x, 200)
	has(t, m, api.Progress{Of: 7}, false)

	l, _ = full(t)
	n := l.Len()
	has(t, l, api.Progress{Of: n}, true)
	p, why := l.Rebuild(2)
	want(t, "Rebuild", why, api.OK)
	same(t, "Rebuild", p, api.Progress{Busy: true, At: 2, Of: n})
	has(t, l, p, true)
}
