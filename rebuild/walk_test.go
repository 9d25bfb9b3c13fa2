package rebuild

import (
	"math/rand/v2"
	"slices"
	"strconv"
	"testing"

	"daybook/api"
	"daybook/disk"
	"daybook/store"
)

func pick[T any](r *rand.Rand, from ...T) T { return from[r.IntN(len(from))] }

// keyOf: mostly one of these claims'.
func keyOf(r *rand.Rand, l []api.Claim) string {
	if len(l) == 0 || r.IntN(9) == 0 {
		return "k" + strconv.Itoa(r.IntN(99))
	}
	return l[r.IntN(len(l))].Key
}

func anyAmount(r *rand.Rand) int64 {
	if r.IntN(30) == 0 {
		return 1 + r.Int64()>>r.IntN(6)
	}
	return 1 + r.Int64N(50)
}

// anyEvent: of any kind; a set with such a base takes more than every second one.
func anyEvent(r *rand.Rand, b api.Base) api.Event {
	day, key := max(b.Lock, d)+r.IntN(60)-3, "k"+strconv.Itoa(r.IntN(4000))
	name := func() string { return pick(r, bank, cust, ann, ann, "Costs", work, "Other") }
	asset := func() string { return pick(r, bank, cust, ann, ann, "Assets", work) }
	n := anyAmount(r)
	switch r.IntN(20) {
	case 0:
		return open(day, pick(r, "Costs", "Other", "Assets:New", "Other:Kid"), pick(r, 0, api.Expense, api.Liability))
	case 1:
		return shut(day+20, pick(r, "Costs", "Other", "Assets:New", "Other:Kid", cust, work))
	case 2, 3, 4, 5:
		return post(day, key, line(name(), n), line(name(), -n))
	case 6:
		return post(day, key, line(name(), n), line(name(), -n/2), line(name(), n/2-n))
	case 7, 8:
		ref := key
		if len(b.Entries) > 0 {
			ref = b.Entries[r.IntN(len(b.Entries))].Key
		}
		return void(day+10, key, ref)
	case 9, 10, 11:
		return invoice(day, key, asset(), work, day+r.IntN(50), n)
	case 12, 13, 14:
		return pay(day, key, asset(), pick(r, bank, "Assets"), n)
	case 15:
		return pick(r, lock(b.Lock+r.IntN(5)), lock(day-50), lock(d+r.IntN(20)))
	}
	return allot(day+30, key, keyOf(r, b.Payments), keyOf(r, b.Invoices), max(1, n/4))
}

// TestP12_7AnyEvents: behind each of any events, taken or not, the set is that of all that were taken, told at one time.
func TestP12_7AnyEvents(t *testing.T) {
	var taken [9]int
	answers := map[api.Errno]int{}
	for seed := range uint64(25) {
		r := source(seed)
		x := &both{t: t, s: New()}
		for _, e := range opened() {
			x.tell(e)
		}
		for range 80 {
			e := anyEvent(r, x.s.Book().Base())
			why := x.tell(e)
			if answers[why]++; why == api.OK {
				taken[e.Kind]++
			}
			if r.IntN(12) == 0 {
				x.s = from(t, x.s.Snap())
			}
		}
	}
	if slices.Contains(taken[1:], 0) || answers[api.OK] < 600 || len(answers) < 12 {
		t.Errorf("too little was tried: %v, %v", taken, answers)
	}
}

// walk: a ledger's log, the set behind it, and jobs and checkpoints of it.
type walk struct {
	t      *testing.T
	r      *rand.Rand
	disk   *disk.Disk
	log    *store.Log
	live   *Set
	events []api.Event
	jobs   []*Job
	snaps  []api.Snap
	made   int
}

func (w *walk) submit() {
	e := anyEvent(w.r, w.live.Book().Base())
	if len(w.events) < len(opened()) {
		e = opened()[len(w.events)]
	}
	if w.live.Book().Check(e) == api.OK {
		add(w.t, w.log, e)
		w.live.Apply(e)
		w.events = append(w.events, e)
	}
}

func (w *walk) step() {
	if len(w.jobs) == 0 || w.r.IntN(10) == 0 {
		w.jobs = append(w.jobs, Begin(w.log))
	}
	i := w.r.IntN(len(w.jobs))
	j, k := w.jobs[i], 1+w.r.IntN(12)
	at, was := j.At(), w.disk.State()
	made, why := j.Step(k)
	if made != (at == len(w.events)) || why != api.OK || j.At() != min(at+k, len(w.events)) || (j.Set() != nil) != made {
		w.t.Fatalf("Step(%d) at %d of %d: %v, %d; At %d", k, at, len(w.events), made, why, j.At())
	}
	if !alike(w.disk.State(), was) {
		w.t.Fatal("a step changed the disk")
	}
	if !made {
		return
	}
	has(w.t, j.Set(), plainSnap(w.t, w.events))
	w.made++
	if w.jobs = slices.Delete(w.jobs, i, i+1); w.r.IntN(2) == 0 {
		w.live = j.Set() // as a ledger cuts over
	}
}

func (w *walk) resume() {
	x := w.snaps[w.r.IntN(len(w.snaps))]
	s := from(w.t, x)
	if why := s.Replay(w.log, x.Base.Events); why != api.OK {
		w.t.Fatalf("Replay from %d: %d", x.Base.Events, why)
	}
	has(w.t, s, plainSnap(w.t, w.events))
	if w.r.IntN(2) == 0 {
		w.live = s
	}
}

// TestP12_9Walk: events, steps of several jobs, checkpoints and replays in any order.
func TestP12_9Walk(t *testing.T) {
	made := 0
	for seed := range uint64(20) {
		r := source(100 + seed)
		l, disk := logOf(t, pick(r, 64, 200, 4096), nil)
		w := &walk{t: t, r: r, disk: disk, log: l, live: New(), snaps: []api.Snap{New().Snap()}}
		for range 250 {
			switch r.IntN(8) {
			case 0, 1:
				w.step()
			case 2:
				w.snaps = append(w.snaps, w.live.Snap())
			case 3:
				w.resume()
			default:
				w.submit()
			}
		}
		has(t, w.live, plainSnap(t, w.events))
		made += w.made
	}
	if made < 40 {
		t.Errorf("only %d jobs came to their end", made)
	}
}
