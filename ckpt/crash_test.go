package ckpt

import (
	"fmt"
	"math/rand/v2"
	"slices"
	"strings"
	"testing"

	"daybook/api"
	"daybook/disk"
)

// before: some ways in which a disk may be when a Write begins.
func before() map[string][]api.File {
	torn := api.File{Name: "ckpt.tmp", Data: []byte("a draft that is not synced"), Synced: 4}
	loose := api.File{Name: "log", Data: []byte("others' bytes"), Synced: 3}
	return map[string][]api.File{
		"an empty disk":           nil,
		"a draft":                 {torn, loose},
		"an older one":            {snapFile(2, 1), loose},
		"the same number":         {snapFile(2, 1), snapFile(3, 7), snapFile(8, 1)},
		"the same, with a draft":  {snapFile(3, 7), snapFile(8, 1), torn, loose},
		"the same, spoilt":        {snapFile(2, 1), file1("ckpt-000003", "junk"), torn},
		"a newer one":             {snapFile(1000, 1)},
		"a draft that was whole ": {file1("ckpt.tmp", string(plainEncode(small(3, 8)))), snapFile(3, 7)},
	}
}

// The power fails at each call of a Write, and the crash leaves each beginning of what was not synced.
func TestP11_10EachCallEachCrash(t *testing.T) {
	s := small(3, 9)
	bytesOf := string(plainEncode(s))
	for what, files := range before() {
		old := of(t, files...)
		calls := 0
		for fuse := 0; ; fuse++ {
			d := of(t, files...)
			want(t, "Fuse", d.Fuse(fuse), api.OK)
			e := Write(d, s)
			for keep := -1; keep <= len(bytesOf)+1; keep++ {
				c := copyOf(t, d)
				c.Crash([]int{keep})
				checkBehind(t, fmt.Sprintf("%s, fuse %d, %d kept", what, fuse, keep), old, c, s, e == api.OK)
			}
			if e == api.OK {
				break
			}
			want(t, what, e, api.ErrDown)
			calls++
		}
		if calls != 4 && calls != 5 {
			t.Errorf("%s: %d calls", what, calls)
		}
	}
}

// checkBehind: what P11.10 says of a disk that was as old, behind a Write of s and a crash.
func checkBehind(t *testing.T, what string, old, d *disk.Disk, s api.Snap, done bool) {
	t.Helper()
	name, bytesOf := Name(s.Base.Events), string(plainEncode(s))
	for _, f := range old.State().Files {
		if nameForm.MatchString(f.Name) && f.Name != name && f.Synced == len(f.Data) {
			same(t, what+": "+f.Name, data(d, f.Name), string(f.Data))
		}
	}
	switch got := data(d, name); {
	case done:
		same(t, what, got, bytesOf)
	case got != bytesOf:
		same(t, what, got, data(old, name))
	}
	wantedList, _ := plainList(old)
	l, e := List(d)
	if at, was := slices.BinarySearch(wantedList, s.Base.Events); !was && data(d, name) != "(none)" {
		wantedList = slices.Insert(wantedList, at, s.Base.Events)
	}
	if e != api.OK || !slices.Equal(l, wantedList) {
		t.Errorf("%s: List: %v, error %d, want %v", what, l, int(e), wantedList)
	}
	for _, most := range []int{s.Base.Events - 1, s.Base.Events, most} {
		got, is, e := Newest(d, most)
		wanted, wantedIs, _ := plainNewest(d, most)
		if e != api.OK || is != wantedIs || !alike(got, wanted) {
			t.Errorf("%s: Newest(%d): %v, error %d", what, most, is, int(e))
		}
		if done && most == s.Base.Events {
			same(t, what+": the one that was written", is && alike(got, s), true)
		}
	}
}

// A Write that answered OK is there behind every crash, with and without a fuse, until it is trimmed or replaced.
func TestP11_10BehindEveryCrash(t *testing.T) {
	d, _ := disk.New(5000)
	for events := range 20 {
		want(t, "Write", Write(d, small(events, 1)), api.OK)
		for _, keep := range [][]int{nil, {0}, {-1}, {5}, {most}, {0, 1, 2}} {
			d.Crash(keep)
			wantNewest(t, "behind a crash", d, events, true, small(events, 1))
			for older := range events {
				wantNewest(t, "behind a crash", d, older, true, small(older, 1))
			}
		}
	}
	if n, e := Trim(d, 3); n != 17 || e != api.OK {
		t.Errorf("Trim: %d, error %d", n, int(e))
	}
	d.Crash(nil)
	wantList(t, "trimmed", d, 17, 18, 19)
}

// walk is a disk, worked on by the package, and one by the model.
type walk struct {
	t     *testing.T
	r     *rand.Rand
	d, pd *disk.Disk
	whole map[int]string // the checkpoints that were written, and not trimmed or replaced since
	met   map[string]int
}

func (w *walk) anySnap() api.Snap {
	s := small([]int{0, 1, 2, 3, 3, 4, 5, 1000, 1001, -1}[w.r.IntN(10)], w.r.IntN(100))
	events := s.Base.Events
	switch k := w.r.IntN(300); {
	case k == 0:
		s = sized(api.MaxCkpt + 1)
	case k < 10:
		s.Base.Keys = append(s.Base.Keys, strings.Repeat("x", w.r.IntN(2000)))
	case k < 40:
		s = anySnap(w.r, 1)
	}
	s.Base.Events = events
	return s
}

func (w *walk) tell(what string, e, pe api.Errno) {
	w.met[fmt.Sprint(what, " ", int(e))]++
	if e != pe {
		w.t.Fatalf("%s: error %d, want %d", what, int(e), int(pe))
	}
}

// both makes a call of somebody else on both disks.
func (w *walk) both(do func(d *disk.Disk) api.Errno) {
	same(w.t, "a call on the disk", do(w.d), do(w.pd))
}

func (w *walk) write() {
	s := w.anySnap()
	e := Write(w.d, s)
	w.tell("Write", e, plainWrite(w.pd, s))
	if e == api.OK {
		w.whole[s.Base.Events] = string(plainEncode(s))
	}
}

func (w *walk) trim() {
	keep := []int{-1, 0, 1, 2, 2, 3, most}[w.r.IntN(7)]
	n, e := Trim(w.d, keep)
	pn, pe := plainTrim(w.pd, keep)
	w.tell("Trim", e, pe)
	same(w.t, "Trim", n, pn)
	for events := range w.whole {
		if data(w.pd, Name(events)) == "(none)" {
			delete(w.whole, events)
		}
	}
}

func (w *walk) look() {
	l, e := List(w.d)
	pl, pe := plainList(w.pd)
	w.tell("List", e, pe)
	if !slices.Equal(l, pl) {
		w.t.Fatalf("List: %v, want %v", l, pl)
	}
	for _, most := range []int{least, -1, 0, 1, 2, 3, 4, 5, 999, 1000, most} {
		s, is, e := Newest(w.d, most)
		ps, pis, pe := plainNewest(w.pd, most)
		w.tell("Newest", e, pe)
		if is != pis || !alike(s, ps) {
			w.t.Fatalf("Newest(%d): %v, %+v, want %v, %+v", most, is, s, pis, ps)
		}
		if is {
			w.met["newest"]++
		}
	}
}

// meddle: somebody else at the files.
func (w *walk) meddle() {
	name := []string{"ckpt.tmp", "ckpt-000001", "ckpt-000003", "ckpt-000007", "ckpt-001000", "mine"}[w.r.IntN(6)]
	if events, is := eventsOf(name); is {
		delete(w.whole, events)
	}
	b := plainEncode(small(3, 5))[:w.r.IntN(60)%43]
	switch w.r.IntN(4) {
	case 0:
		w.both(func(d *disk.Disk) api.Errno { return d.Remove(name) })
	case 1:
		w.both(func(d *disk.Disk) api.Errno { return d.Create(name) })
	case 2:
		w.both(func(d *disk.Disk) api.Errno { return d.Append(name, b) })
	case 3:
		w.both(func(d *disk.Disk) api.Errno { return d.Rename(name, "ckpt-000004") })
		delete(w.whole, 4)
	}
}

func (w *walk) step() {
	switch k := w.r.IntN(20); {
	case k < 9:
		w.write()
	case k < 11:
		w.trim()
	case k < 14:
		n := w.r.IntN(9) - 1
		w.both(func(d *disk.Disk) api.Errno { return d.Fuse(n) })
	case k < 17:
		keep := make([]int, w.r.IntN(3))
		for i := range keep {
			keep[i] = []int{-1, 0, 1, 20, 43, most}[w.r.IntN(6)]
		}
		w.d.Crash(keep)
		w.pd.Crash(keep)
	case k < 18:
		w.meddle()
	default:
		w.look()
	}
}

// Random calls on two disks of all sorts, one worked on by the package and one by the model: all answers and all files are the same, and what was written is there.
func TestP11_4To11_11Walks(t *testing.T) {
	r := source(20)
	met := map[string]int{}
	for round := range 1000 {
		capacity := []int{30, 60, 100, 200, 800, 5000}[r.IntN(6)]
		d, _ := disk.New(capacity)
		pd, _ := disk.New(capacity)
		w := &walk{t, r, d, pd, map[int]string{}, met}
		if round%5 == 0 {
			for i := range 61 { // few files are left
				w.both(func(d *disk.Disk) api.Errno { return d.Create(fmt.Sprint("other", i)) })
			}
		}
		for range 60 {
			w.step()
			same(t, "the disk", shown(w.d), shown(w.pd))
			for events, bytesOf := range w.whole {
				if data(w.d, Name(events)) != bytesOf {
					t.Errorf("the checkpoint of %d is another", events)
				}
			}
			if t.Failed() {
				t.Fatalf("round %d: %q", round, shown(w.d))
			}
		}
	}
	for _, what := range []string{"Write 0", "Write 1", "Write 2", "Write 3", "Write 30", "Write 34", "Trim 0", "Trim 1", "Trim 34", "List 0", "List 34", "Newest 0", "Newest 34", "newest"} {
		if met[what] < 20 {
			t.Errorf("the walks met %v", met)
		}
	}
}

// No file of others is touched, whatever is called, and whenever the power fails.
func TestP11_11Others(t *testing.T) {
	var others []api.File
	for i, name := range nearly() {
		others = append(others, api.File{Name: name, Data: []byte("of others"), Synced: i % 10})
	}
	r := source(21)
	for range 400 {
		state := of(t, append(slices.Clone(others), snapFile(1, 1), snapFile(3, 1), file1("ckpt.tmp", "left"))...).State()
		state.Capacity = api.MaxDisk
		if r.IntN(3) == 0 {
			state.Capacity = len(others)*9 + 200
		}
		d, e := disk.From(state)
		want(t, "From", e, api.OK)
		d.Fuse(r.IntN(12) - 1)
		for range 8 {
			switch r.IntN(4) {
			case 0:
				Write(d, small(r.IntN(6), r.IntN(9)))
			case 1:
				Newest(d, r.IntN(9))
			case 2:
				List(d)
			case 3:
				Trim(d, r.IntN(3))
			}
			kept := map[string]api.File{}
			for _, f := range d.State().Files {
				kept[f.Name] = f
			}
			for _, f := range others {
				if !alike(kept[f.Name], f) {
					t.Fatalf("%s was touched", f.Name)
				}
			}
		}
	}
}
