package ledger

import (
	"fmt"
	"math/rand/v2"
	"slices"
	"strconv"
	"strings"
	"testing"

	"daybook/api"
	"daybook/ckpt"
	"daybook/disk"
	"daybook/event"
	"daybook/paper"
	"daybook/store"
)

func pick[T any](r *rand.Rand, from ...T) T { return from[r.IntN(len(from))] }

// keyOf: mostly one of these claims'.
func keyOf(r *rand.Rand, l []api.Claim) string {
	if len(l) == 0 || r.IntN(9) == 0 {
		return "k" + strconv.Itoa(r.IntN(99))
	}
	return l[r.IntN(len(l))].Key
}

func anyAmount(r *rand.Rand) int64 {
	if r.IntN(40) == 0 {
		return 1 + r.Int64()>>r.IntN(6)
	}
	return 1 + r.Int64N(50)
}

// anyEvent: of any kind; books with such a base take more than every second one.
func anyEvent(r *rand.Rand, b api.Base) api.Event {
	day, key := max(b.Lock, d)+r.IntN(60)-3, "k"+strconv.Itoa(r.IntN(4000))
	name := func() string { return pick(r, bank, cust, ann, ann, "Costs", work, "Other") }
	asset := func() string { return pick(r, bank, cust, ann, ann, "Assets", work) }
	n := anyAmount(r)
	switch r.IntN(20) {
	case 0:
		return opens(day, pick(r, "Costs", "Other", "Assets:New", "Other:Kid"), pick(r, 0, api.Expense, api.Liability))
	case 1:
		return shuts(day+20, pick(r, "Costs", "Other", "Assets:New", "Other:Kid", cust, work))
	case 2, 3, 4, 5:
		e := post(day, key, line(name(), n), line(name(), -n))
		e.Memo = pick(r, "", "", "rent", "a, b;")
		return e
	case 6:
		return post(day, key, line(name(), n), api.Line{Account: name(), Amount: -n / 2, Tag: pick(r, "", "flat")}, line(name(), n/2-n))
	case 7, 8:
		ref := key
		if len(b.Entries) > 0 {
			ref = b.Entries[r.IntN(len(b.Entries))].Key
		}
		return void(day+10, key, ref)
	case 9, 10, 11:
		return invoice(day, key, asset(), work, day+r.IntN(50), n)
	case 12, 13, 14:
		return pay(day, key, asset(), pick(r, bank, "Assets"), n)
	case 15:
		return pick(r, lock(b.Lock+r.IntN(5)), lock(day-50), lock(d+r.IntN(20)))
	}
	return allot(day+30, key, keyOf(r, b.Payments), keyOf(r, b.Invoices), max(1, n/4))
}

// next: an event for books with such a base: the first accounts, then any.
func next(r *rand.Rand, b api.Base) api.Event {
	if b.Events < 6 && r.IntN(8) > 0 {
		return first()[b.Events]
	}
	return anyEvent(r, b)
}

// model is a ledger by the chapter's words alone, on a disk of its own: the layers below do what stands on the disk, the list of events gives the answers.
type model struct {
	*plain
	t              *testing.T
	disk           *disk.Disk
	log            *store.Log
	gen, at        int
	busy           bool
	readOnly, down bool
}

// opened: the model on a disk.
func opened(t *testing.T, x *disk.Disk, segment int) (*model, api.Errno) {
	log, why := store.Open(x, segment)
	if why != api.OK {
		return nil, why
	}
	var events []api.Event
	for i := range log.Len() {
		b, why := log.Read(i)
		want(t, "Read", why, api.OK)
		e, why := event.Decode(b)
		want(t, "Decode", why, api.OK)
		events = append(events, e)
	}
	return &model{plain: behind(t, events), t: t, disk: x, log: log}, api.OK
}

// met: an answer that may be the one that makes it down.
func (m *model) met(why api.Errno) api.Errno {
	m.down = m.down || why == api.ErrDown
	return why
}

func (m *model) Submit(e api.Event) (int, api.Errno) {
	if m.down {
		return 0, api.ErrDown
	}
	if m.readOnly {
		return 0, api.ErrReadOnly
	}
	if why := m.books.Check(e); why != api.OK {
		return 0, why
	}
	b, _ := event.Encode(e)
	why := m.met(m.log.Append(b))
	m.readOnly = why == api.ErrFull || why == api.ErrMany
	if why != api.OK {
		return 0, why
	}
	m.plain = m.with(m.t, e)
	return m.plain.Len(), api.OK
}

func (m *model) Text(s string) (int, api.Errno) {
	if m.down {
		return 0, api.ErrDown
	}
	if m.readOnly {
		return 0, api.ErrReadOnly
	}
	e, why := event.Parse(s, 2)
	if why != api.OK {
		return 0, why
	}
	return m.Submit(e)
}

func (m *model) Event(n int) (api.Event, api.Errno) {
	if m.down {
		return api.Event{}, api.ErrDown
	}
	e, why := m.plain.Event(n)
	if why == api.OK {
		if _, why := m.log.Read(n - 1); m.met(why) != api.OK {
			return api.Event{}, why
		}
	}
	return e, why
}

func (m *model) Export() (string, api.Errno) {
	for n := range m.Len() {
		if _, why := m.Event(n + 1); why != api.OK {
			return "", why
		}
	}
	if m.down {
		return "", api.ErrDown
	}
	return m.plain.Export()
}

func (m *model) Import(s string) (int, error) {
	if m.down {
		return 0, api.ErrDown
	}
	if m.readOnly {
		return 0, api.ErrReadOnly
	}
	events, err := paper.Parse(s, 2)
	if err != nil {
		return 0, err
	}
	for i, e := range events {
		if _, why := m.Submit(e); why != api.OK {
			return i, why
		}
	}
	return len(events), nil
}

func (m *model) Snapshot() api.Errno {
	if m.down {
		return api.ErrDown
	}
	return m.met(ckpt.Write(m.disk, m.snap()))
}

func (m *model) Trim(keep int) (int, api.Errno) {
	if m.down {
		return 0, api.ErrDown
	}
	n, why := ckpt.Trim(m.disk, keep)
	if n > 0 {
		m.readOnly = false
	}
	return n, m.met(why)
}

func (m *model) Rebuild(k int) (api.Progress, api.Errno) {
	if m.down {
		return api.Progress{}, api.ErrDown
	}
	if k < 1 {
		return api.Progress{}, api.ErrArg
	}
	if !m.busy {
		m.busy, m.at = true, 0
	}
	if m.at == m.Len() {
		m.busy, m.at, m.gen = false, 0, m.gen+1
	} else {
		for to := m.at + min(k, m.Len()-m.at); m.at < to; m.at++ {
			if _, why := m.log.Read(m.at); m.met(why) != api.OK {
				m.busy, m.at = false, 0
				return api.Progress{}, why
			}
		}
	}
	p, _ := m.Status()
	return p, api.OK
}

func (m *model) Status() (api.Progress, bool) {
	return api.Progress{Gen: m.gen, Busy: m.busy, At: m.at, Of: m.Len()}, m.readOnly
}

func (m *model) Trial() ([]api.Column, api.Errno) {
	if m.down {
		return nil, api.ErrDown
	}
	return m.plain.Trial()
}

func (m *model) Rollup(account string) (api.Balance, api.Errno) {
	if m.down {
		return api.Balance{}, api.ErrDown
	}
	return m.plain.Rollup(account)
}

func (m *model) Daily(account string, from, to int) ([]api.DayRow, api.Errno) {
	if m.down {
		return nil, api.ErrDown
	}
	return m.plain.Daily(account, from, to)
}

func (m *model) Aged(account string, day int) (api.Ages, api.Errno) {
	if m.down {
		return api.Ages{}, api.ErrDown
	}
	return m.plain.Aged(account, day)
}

func (m *model) Open(account string, day int) ([]api.Claim, api.Errno) {
	if m.down {
		return nil, api.ErrDown
	}
	return m.plain.Open(account, day)
}

func (m *model) Accounts() ([]api.Account, api.Errno) {
	if m.down {
		return nil, api.ErrDown
	}
	return m.plain.Accounts()
}

func (m *model) Left(key string) (int64, api.Errno) {
	if m.down {
		return 0, api.ErrDown
	}
	return m.plain.Left(key)
}

func (m *model) Query(s string) (api.Table, int, api.Errno) {
	if m.down {
		return api.Table{}, 0, api.ErrDown
	}
	return m.plain.Query(s)
}

// whole: all calls of a ledger. It has them, and the model.
type whole interface {
	asked
	Submit(e api.Event) (int, api.Errno)
	Text(s string) (int, api.Errno)
	Import(s string) (int, error)
	Snapshot() api.Errno
	Trim(keep int) (int, api.Errno)
	Rebuild(k int) (api.Progress, api.Errno)
	Status() (api.Progress, bool)
}

// walk: a ledger and its model, each on a disk of its own, told the same.
type walk struct {
	t    *testing.T
	r    *rand.Rand
	x, y *disk.Disk
	l    *Ledger
	m    *model
	met  map[string]int
}

// both: a call on the ledger and on the model, which must answer the same.
func (w *walk) both(what string, do func(l whole) string) {
	w.t.Helper()
	got, wanted := do(w.l), do(w.m)
	if got != wanted {
		w.t.Fatalf("%s:\n%s, want\n%s", what, got, wanted)
	}
	w.met[strings.Fields(what)[0]]++
}

// disks: a call of somebody else on both disks.
func (w *walk) disks(do func(x *disk.Disk) api.Errno) {
	w.t.Helper()
	same(w.t, "a call on the disk", do(w.x), do(w.y))
}

func (w *walk) open() {
	w.t.Helper()
	segment := pick(w.r, 64, 64, 100, 300, 4096, 65536)
	for {
		l, why := Open(w.x, api.Settings{Segment: segment, Digits: 2})
		m, reason := opened(w.t, w.y, segment)
		want(w.t, "Open", why, reason)
		if why == api.OK {
			w.l, w.m = l, m
			return
		}
		if why != api.ErrDown {
			w.t.Skipf("no ledger can be on this disk: %d", int(why))
		}
		w.crash()
	}
}

func (w *walk) crash() {
	keep := make([]int, w.r.IntN(4))
	for i := range keep {
		keep[i] = pick(w.r, -1, 0, 1, 3, 4, 8, 12, 30, 70, greatest)
	}
	w.x.Crash(keep)
	w.y.Crash(keep)
}

// spoil: a checkpoint's file is taken away, cut or turned in a bit, and the ledger is opened anew.
func (w *walk) spoil() {
	var files []string
	for _, name := range strings.Fields(names(w.x)) {
		if strings.HasPrefix(name, "ckpt-") {
			files = append(files, name)
		}
	}
	if len(files) == 0 || w.x.Down() {
		return
	}
	name := pick(w.r, files...)
	b := data(w.x, name)
	switch w.r.IntN(3) {
	case 0:
		b = nil
	case 1:
		b = b[:w.r.IntN(len(b))]
	case 2:
		b[w.r.IntN(len(b))] ^= 1 << w.r.IntN(8)
	}
	w.x, w.y = withFile(w.t, w.x, name, slices.Clone(b)), withFile(w.t, w.y, name, b)
	w.open()
	w.met["spoilt"]++
}

func (w *walk) submit() {
	e := next(w.r, w.m.base)
	switch s, why := event.Print(e, 2); {
	case why == api.OK && w.r.IntN(3) == 0:
		w.both("Text "+s, func(l whole) string { return fmt.Sprint(l.Text(s)) })
	case why == api.OK && w.r.IntN(6) == 0:
		f, _ := paper.Print([]api.Event{e, anyEvent(w.r, w.m.base), anyEvent(w.r, w.m.base)}, 2)
		f += pick(w.r, "", "", "; a remark\n", "no event\n")
		w.both("Import "+f, func(l whole) string { return fmt.Sprint(l.Import(f)) })
	default:
		w.both(fmt.Sprintf("Submit %+v", e), func(l whole) string { return fmt.Sprint(l.Submit(e)) })
	}
}

func (w *walk) ask() {
	n, name, day, q := w.r.IntN(w.m.Len()+3)-1, pick(w.r, bank, ann, "Costs", "No"), d+w.r.IntN(100), pick(w.r, questions()...)
	switch w.r.IntN(8) {
	case 0:
		w.both("Event", func(l whole) string { e, why := l.Event(n); return fmt.Sprintf("%+v %d", e, int(why)) })
	case 1:
		w.both("Export", func(l whole) string { return fmt.Sprint(l.Export()) })
	case 2:
		w.both("Query "+q, func(l whole) string { return fmt.Sprint(l.Query(q)) })
	case 3:
		w.both("Rollup "+name, func(l whole) string { return fmt.Sprint(l.Rollup(name)) })
	case 4:
		w.both("Daily "+name, func(l whole) string { return fmt.Sprint(l.Daily(name, day-20, day)) })
	case 5:
		w.both("Aged "+name, func(l whole) string { return fmt.Sprint(l.Aged(name, day)) })
	case 6:
		w.both("Trial", func(l whole) string { return fmt.Sprint(l.Trial()) })
	case 7:
		w.both("Accounts", func(l whole) string { return fmt.Sprint(l.Accounts()) })
	}
}

func (w *walk) step() {
	switch k := w.r.IntN(60); {
	case k < 30:
		w.submit()
	case k < 36:
		w.ask()
	case k < 41:
		n := pick(w.r, 0, 1, 2, 5, 20, 1000)
		w.both("Rebuild", func(l whole) string { return fmt.Sprint(l.Rebuild(n)) })
	case k < 44:
		w.both("Snapshot", func(l whole) string { return fmt.Sprint(l.Snapshot()) })
	case k < 47:
		n := pick(w.r, -1, 0, 0, 1, 2)
		w.both("Trim", func(l whole) string { return fmt.Sprint(l.Trim(n)) })
	case k < 49:
		n := w.r.IntN(25)
		w.disks(func(x *disk.Disk) api.Errno { return x.Fuse(n) })
	case k < 50:
		w.crash()
	case k < 54:
		if w.x.Down() || w.r.IntN(3) == 0 {
			w.crash()
			w.open()
		}
	case k < 55:
		w.open()
	case k < 56:
		w.spoil()
	case k < 57:
		n := w.r.IntN(70)
		w.disks(func(x *disk.Disk) api.Errno { return x.Create(fmt.Sprint("mine", n)) })
	default:
		w.both("told", func(l whole) string { return told(l) })
	}
}

// TestP12Walk: any calls, on disks of all sorts, with the power failing, crashes and spoilt checkpoints: every answer is the model's, and so is the disk.
func TestP12Walk(t *testing.T) {
	met, answers := map[string]int{}, map[string]int{}
	for seed := range uint64(100) {
		t.Run(fmt.Sprint(seed), func(t *testing.T) {
			r := source(1000 + seed)
			capacity := pick(r, 300, 1000, 3000, 20000, api.MaxDisk)
			w := &walk{t: t, r: r, x: newDisk(t, capacity), y: newDisk(t, capacity), met: met}
			if seed%5 == 0 {
				for i := range 50 { // few files are left
					w.disks(func(x *disk.Disk) api.Errno { return x.Create(fmt.Sprint("other", i)) })
				}
			}
			w.open()
			for range 150 {
				w.step()
				same(t, "the disk", shown(w.x), shown(w.y))
				w.both("Status", func(l whole) string { return fmt.Sprint(l.Status()) })
				if t.Failed() {
					t.FailNow()
				}
				p, readOnly := w.l.Status()
				if readOnly {
					answers["read only"]++
				}
				if w.m.down {
					answers["down"]++
				}
				if p.Gen > 0 {
					answers["rebuilt"]++
				}
				if w.x.Down() && !w.m.down {
					answers["not met"]++
				}
			}
			answers["events"] += w.m.Len()
		})
	}
	if len(met) < 15 || met["spoilt"] < 20 || answers["read only"] < 200 || answers["down"] < 500 || answers["rebuilt"] < 200 || answers["not met"] < 10 || answers["events"] < 1500 {
		t.Errorf("too little was tried: %v, %v", met, answers)
	}
}
