package store

import (
	"fmt"
	"math/rand/v2"
	"slices"
	"strings"
	"testing"

	"daybook/api"
	"daybook/disk"
)

// crashed: a disk of the same state behind a crash that keeps so many bytes of each file.
func crashed(t *testing.T, d *disk.Disk, keep int) *disk.Disk {
	t.Helper()
	c := from(t, d.State())
	c.Crash([]int{keep})
	return c
}

// The power fails at each call of an Open that begins a log, and the crash leaves any beginning: a later Open is OK.
func TestP4_8OpenIsCut(t *testing.T) {
	for _, files := range [][]api.File{nil, {file1("log-000001", "")}, {file1("log.tmp", "1\nsum 6")}, {file1("log-000001", ""), file1("log.tmp", "x")}} {
		calls := 0
		for fuse := 0; ; fuse++ {
			d := of(t, files...)
			want(t, "Fuse", d.Fuse(fuse), api.OK)
			l, e := Open(d, 64)
			if e == api.OK {
				break
			}
			calls++
			if l != nil || e != api.ErrDown || !d.Down() {
				t.Fatalf("Open with a fuse of %d: error %d", fuse, int(e))
			}
			for keep := range 17 {
				c := crashed(t, d, keep)
				same(t, "Len", opened(t, c, 64).Len(), 0)
				same(t, "the files", names(c), "log log-000001")
				same(t, "the index", data(c, "log"), "1\nsum 6751fc53\n")
			}
		}
		if calls < 4 {
			t.Errorf("Open was cut at %d calls", calls)
		}
	}
}

// The power fails at each call of an Append, with and without a new segment, and the crash leaves any beginning: what was answered is there, the last one perhaps, whole.
func TestP4_8AppendIsCut(t *testing.T) {
	stale := []api.File{file1("log-000003", ""), file1("log.tmp", "1 1")}
	for what, files := range map[string][]api.File{
		"into a segment":                        logFiles([]string{"a"}, []string{"b"}),
		"into a new segment":                    logFiles([]string{"a"}, []string{text(60)}),
		"into a new segment, with files in way": append(logFiles([]string{"a"}, []string{text(60)}), stale...),
		"into a new segment behind a torn end":  append(logFiles([]string{"a"})[:1], file1("log-000001", string(framed("a"))+"\x05")),
	} {
		ahead := all(opened(t, of(t, slices.Clone(files)...), 64))
		calls := 0
		for fuse := 0; ; fuse++ {
			d := of(t, slices.Clone(files)...)
			l := opened(t, d, 64)
			want(t, "Fuse", d.Fuse(fuse), api.OK)
			e := l.Append([]byte("the new record"))
			if e == api.OK {
				break
			}
			calls++
			want(t, what, e, api.ErrDown)
			for keep := range 40 {
				c := crashed(t, d, keep)
				for _, size := range []int{64, 65536} {
					checkRecovered(t, what, opened(t, c, size), ahead, "the new record")
				}
				k := opened(t, c, 64)
				was := all(k)
				want(t, "Append behind it", k.Append([]byte("more")), api.OK)
				same(t, "all behind it", strings.Join(all(opened(t, c, 100)), ","), strings.Join(append(was, "more"), ","))
			}
		}
		if calls < 2 || strings.Contains(what, "new") && calls < 7 {
			t.Errorf("%s: cut at %d calls", what, calls)
		}
	}
}

// checkRecovered: the records are those ahead, and perhaps the one that met ErrDown.
func checkRecovered(t *testing.T, what string, l *Log, ahead []string, perhaps string) {
	t.Helper()
	got := all(l)
	if !slices.Equal(got, ahead) && !slices.Equal(got, append(slices.Clone(ahead), perhaps)) {
		t.Fatalf("%s: %q, want %q and perhaps %q", what, got, ahead, perhaps)
	}
}

// Of the frame that was being written each beginning is left: only the whole of it is a record.
func TestP4_8EachBeginningOfTheLast(t *testing.T) {
	for _, n := range []int{0, 1, 20, api.MaxRecord} {
		rec := strings.Repeat("r", n)
		for keep := 0; keep <= n+8; keep++ {
			if keep == 20 && n > 100 {
				keep = n - 10
			}
			d, l := begun(t, 10000, api.MaxSegment)
			want(t, "Append", l.Append([]byte("a")), api.OK)
			want(t, "Fuse", d.Fuse(1), api.OK)
			want(t, "Append", l.Append([]byte(rec)), api.ErrDown)
			d.Crash([]int{keep})
			l = opened(t, d, 64)
			if keep == n+8 {
				same(t, "the records", strings.Join(all(l), ","), "a,"+rec)
			} else {
				same(t, "the records", strings.Join(all(l), ","), "a")
			}
		}
	}
}

// A crash while the power is there takes nothing of a log either.
func TestP4_8CrashWithoutAFuse(t *testing.T) {
	d, l := begun(t, 10000, 64)
	for i := range 20 {
		want(t, "Append", l.Append([]byte(fmt.Sprint("record ", i))), api.OK)
		before := tells(l)
		d.Crash(nil)
		same(t, "the log", tells(l), before)
		same(t, "opened anew", tells(opened(t, d, 64)), before)
	}
}

// walk is a log and its model, each on a disk of its own, with all that was answered.
type walk struct {
	t        *testing.T
	r        *rand.Rand
	d, pd    *disk.Disk
	l        *Log
	p        *plain
	answered []string
	perhaps  string // the record whose Append met ErrDown
	unsure   bool
	meddled  bool // somebody else has been at the files
}

func (w *walk) anyRecord() []byte {
	switch w.r.IntN(20) {
	case 0:
		return nil
	case 1:
		return anyBytes(w.r, api.MaxRecord)
	case 2:
		return anyBytes(w.r, api.MaxRecord+1)
	}
	return anyBytes(w.r, w.r.IntN(60))
}

// open opens both; false, if there is no log.
func (w *walk) open() bool {
	size := []int{63, 64, 64, 64, 100, 300, 65536, 65537}[w.r.IntN(8)]
	before := shown(w.d)
	there := data(w.d, "log") != ""
	l, e := Open(w.d, size)
	p, pe := plainOpen(w.pd, size)
	if e != pe || (l == nil) != (e != api.OK) {
		w.t.Fatalf("Open(%d): error %d, want %d, of %q", size, int(e), int(pe), before)
	}
	if there {
		same(w.t, "Open: the disk", shown(w.d), before)
	}
	if e != api.OK {
		return false
	}
	w.l, w.p = l, p
	if !w.meddled {
		w.settle()
	}
	return true
}

// settle: what Open found is what was answered, and perhaps one more.
func (w *walk) settle() {
	got := all(w.l)
	more := slices.Clone(w.answered)
	if w.unsure {
		more = append(more, w.perhaps)
	}
	if !slices.Equal(got, w.answered) && !slices.Equal(got, more) {
		w.t.Fatalf("found %q, answered %q, perhaps %v %q", got, w.answered, w.unsure, w.perhaps)
	}
	w.answered, w.unsure = got, false
}

func (w *walk) append() {
	rec := w.anyRecord()
	before := w.d.State()
	e := w.l.Append(rec)
	if pe := w.p.Append(rec); e != pe {
		w.t.Fatalf("Append of %d bytes: error %d, want %d", len(rec), int(e), int(pe))
	}
	if e == api.OK {
		w.answered = append(w.answered, string(rec))
	}
	if e == api.ErrDown && !before.Down && w.d.Down() {
		w.perhaps, w.unsure = string(rec), true
	}
	w.onlyMore(before)
}

// onlyMore: P4.12: no file that the index named is shorter or another.
func (w *walk) onlyMore(before api.Disk) {
	if w.meddled {
		return
	}
	for _, f := range before.Files {
		if no := numberOf(f.Name); no > 0 && no <= len(w.p.segs) && len(f.Data) > 0 && !strings.HasPrefix(data(w.d, f.Name), string(f.Data)) {
			w.t.Fatalf("P4.12: %s was changed", f.Name)
		}
	}
}

func (w *walk) crash() {
	keep := make([]int, w.r.IntN(4))
	for i := range keep {
		keep[i] = []int{-1, 0, 1, 2, 3, 4, 7, 8, 9, 12, 30, most}[w.r.IntN(12)]
	}
	w.d.Crash(keep)
	w.pd.Crash(keep)
}

// both makes a call of somebody else on both disks.
func (w *walk) both(do func(d *disk.Disk) api.Errno) {
	same(w.t, "a call on the disk", do(w.d), do(w.pd))
}

// meddle: somebody else at the log's files.
func (w *walk) meddle() {
	w.meddled = true
	name := []string{"log", "log-000001", "log-000002", "log-000003", "log-000009"}[w.r.IntN(5)]
	b := framed("x")[:w.r.IntN(10)]
	switch w.r.IntN(4) {
	case 0:
		w.both(func(d *disk.Disk) api.Errno { return d.Remove(name) })
	case 1:
		w.both(func(d *disk.Disk) api.Errno { return d.Create(name) })
	case 2:
		w.both(func(d *disk.Disk) api.Errno { return d.Append(name, b) })
	case 3:
		w.both(func(d *disk.Disk) api.Errno { return d.Rename(name, "mine") })
	}
}

func (w *walk) check() {
	same(w.t, "the disk", shown(w.d), shown(w.pd))
	if w.l == nil {
		return
	}
	same(w.t, "Segments", fmt.Sprint(w.l.Segments()), fmt.Sprint(w.p.Segments()))
	if n := w.l.Len(); n != w.p.Len() || !w.meddled && n < len(w.answered) && w.l.up {
		w.t.Fatalf("Len %d, want %d", n, w.p.Len())
	}
}

func (w *walk) step(meddling bool) {
	switch k := w.r.IntN(40); {
	case k < 22:
		w.append()
	case k < 26:
		i := w.r.IntN(w.p.Len()+3) - 1
		b, e := w.l.Read(i)
		pb, pe := w.p.Read(i)
		if e != pe || string(b) != string(pb) {
			w.t.Fatalf("Read(%d): %q, error %d, want %q, %d", i, b, int(e), pb, int(pe))
		}
	case k < 28:
		same(w.t, "all", tells(w.l), tells(w.p))
	case k < 31:
		n := w.r.IntN(12)
		w.both(func(d *disk.Disk) api.Errno { return d.Fuse(n) })
	case k < 34:
		w.crash()
		w.open()
	case k < 36:
		w.open()
	case k < 37:
		w.both(func(d *disk.Disk) api.Errno { return d.Create("log.tmp") })
	case k < 38:
		n := w.r.IntN(70)
		w.both(func(d *disk.Disk) api.Errno { return d.Create(fmt.Sprint("mine", n)) })
	case meddling:
		w.meddle()
	}
}

// Random calls on a log and on its model, on disks of all sorts: all answers and all files are the same, and behind every Open the records are those that were answered.
func TestP4_8Walks(t *testing.T) {
	r := source()
	met := map[string]int{}
	for round := range 600 {
		capacity := []int{30, 60, 200, 800, 3000, 20000}[r.IntN(6)]
		d, _ := disk.New(capacity)
		pd, _ := disk.New(capacity)
		w := &walk{t: t, r: r, d: d, pd: pd}
		crowd := 0
		if round%5 == 0 {
			crowd = 55 // few files are left
		}
		for i := range crowd {
			w.both(func(d *disk.Disk) api.Errno { return d.Create(fmt.Sprint("other", i)) })
		}
		for !w.open() {
		}
		for range 80 {
			w.step(round%3 == 0)
			w.check()
			if t.Failed() {
				t.Fatalf("round %d: %q", round, shown(w.d))
			}
		}
		for _, f := range w.d.State().Files {
			met[f.Name]++
		}
	}
	if met["log-000004"] == 0 || met["log.tmp"] == 0 {
		t.Errorf("the walks met %v", met)
	}
}

// Every file that the index names keeps its bytes: through Appends that are taken, refused and cut, crashes, and Opens with other sizes.
func TestP4_12OnlyMore(t *testing.T) {
	r := source()
	d, l := begun(t, 3000, 64)
	for range 300 {
		before := d.State()
		named := strings.Count(data(d, "log"), "\n") - 1
		if r.IntN(4) == 0 {
			want(t, "Fuse", d.Fuse(r.IntN(9)), api.OK)
		}
		l.Append(anyBytes(r, r.IntN(90)))
		for _, f := range before.Files {
			no := numberOf(f.Name)
			if no >= 1 && no <= named && !strings.HasPrefix(data(d, f.Name), string(f.Data)) {
				t.Fatalf("%s was changed: %q, behind it %q", f.Name, f.Data, data(d, f.Name))
			}
		}
		if d.Down() { // whatever Append answered
			d.Crash([]int{r.IntN(12)})
			was := shown(d)
			l = opened(t, d, 64+r.IntN(100))
			same(t, "Open: the disk", shown(d), was)
		}
	}
	if n := len(l.Segments()); n < 5 {
		t.Errorf("%d segments", n)
	}
}
