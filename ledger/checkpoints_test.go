package ledger

import (
	"fmt"
	"slices"
	"strings"
	"testing"

	"daybook/api"
	"daybook/ckpt"
)

// TestP18_9Snapshot: the file of the events there are, with all that the books and views keep; no answer changes by it.
func TestP18_9Snapshot(t *testing.T) {
	events := append(story(), later()...)
	for _, n := range []int{0, 1, 7, 20, len(events)} {
		l, x := kept(t, 200, events[:n])
		was, files := told(l), len(x.State().Files)
		for range 2 { // the second one takes the first one's place
			want(t, "Snapshot", l.Snapshot(), api.OK)
			name := fmt.Sprintf("ckpt-%06d", n)
			wanted, why := ckpt.Encode(behind(t, events[:n]).snap())
			want(t, "Encode", why, api.OK)
			if !slices.Equal(data(x, name), wanted) {
				t.Errorf("%s is another one", name)
			}
			same(t, "files", len(x.State().Files), files+1)
			same(t, "what is told", told(l), was)
			has(t, l, api.Progress{Of: n}, false)
		}
		alike(t, "opened anew", on(t, x, 200), behind(t, events[:n]))
		takes(t, l, events[n:])
		alike(t, "gone on", on(t, x, 200), behind(t, events))
	}
}

// TestP18_9Rebuilt: also while a rebuild is under way, and behind it, the checkpoint is the set's.
func TestP18_9Rebuilt(t *testing.T) {
	l, x := kept(t, 200, story())
	wanted, _ := ckpt.Encode(behind(t, story()).snap())
	for range 12 {
		_, why := l.Rebuild(5)
		want(t, "Rebuild", why, api.OK)
		was := status(l)
		want(t, "Snapshot", l.Snapshot(), api.OK)
		same(t, "Status", status(l), was)
		if !slices.Equal(data(x, "ckpt-000027"), wanted) {
			t.Fatal("the checkpoint is another one")
		}
	}
	has(t, l, api.Progress{Gen: 1, Busy: true, At: 25, Of: 27}, false)
}

func TestP18_10Trim(t *testing.T) {
	for snapshots := range 5 {
		for _, keep := range []int{0, 1, 2, 4, 5, 100, greatest} {
			l, x := kept(t, 4096, nil)
			var files []string
			for i, e := range story() {
				takes(t, l, []api.Event{e})
				if i < snapshots {
					want(t, "Snapshot", l.Snapshot(), api.OK)
					files = append(files, ckpt.Name(i+1))
				}
			}
			was := told(l)
			goes := max(0, snapshots-keep)
			n, why := l.Trim(keep)
			want(t, "Trim", why, api.OK)
			same(t, fmt.Sprintf("Trim(%d) of %d", keep, snapshots), n, goes)
			same(t, "the files", names(x), strings.Join(append(files[goes:], "log", "log-000001"), " "))
			same(t, "what is told", told(l), was)
			n, why = l.Trim(keep)
			want(t, "Trim", why, api.OK)
			same(t, "Trim again", n, 0)
			alike(t, "opened anew", on(t, x, 64), behind(t, story()))
		}
	}
}

func TestP18_10Wrong(t *testing.T) {
	l, x := kept(t, 4096, story())
	want(t, "Snapshot", l.Snapshot(), api.OK)
	was := shown(x)
	for _, keep := range []int{-1, least} {
		n, why := l.Trim(keep)
		want(t, "Trim", why, api.ErrArg)
		same(t, "Trim", n, 0)
	}
	same(t, "the disk", shown(x), was)
	has(t, l, api.Progress{Of: 27}, false)
	failPower(t, x)
	_, why := l.Trim(-1)
	want(t, "Trim", why, api.ErrArg) // ahead of the disk's
	n, why := l.Trim(0)
	want(t, "Trim", why, api.ErrDown)
	same(t, "Trim", n, 0)
	_, why = l.Trim(-1)
	want(t, "Trim", why, api.ErrDown)
}

// TestP18_10Draft: what a crash has left of a checkpoint goes too, and counts.
func TestP18_10Draft(t *testing.T) {
	l, x := kept(t, 4096, story())
	want(t, "Snapshot", l.Snapshot(), api.OK)
	for fuse := range 5 {
		y := copied(t, x)
		m := on(t, y, 4096)
		want(t, "Fuse", y.Fuse(fuse), api.OK)
		if why := m.Snapshot(); fuse < 4 {
			want(t, "Snapshot", why, api.ErrDown)
		} else {
			want(t, "Snapshot", why, api.OK)
		}
		y.Crash([]int{30})
		left := 0
		if strings.Contains(names(y), "ckpt.tmp") {
			left = 1
		}
		same(t, fmt.Sprint("what is left at ", fuse), left == 1, fuse > 0 && fuse < 4)
		m = on(t, y, 4096)
		alike(t, "behind the crash", m, behind(t, story()))
		n, why := m.Trim(1)
		want(t, "Trim", why, api.OK)
		same(t, "Trim", n, left)
		same(t, "the files", names(y), "ckpt-000027 log log-000001")
	}
}

// TestP18_9Power: the power fails at each call of a Snapshot and of a Trim: no event and no answer is lost.
func TestP18_9Power(t *testing.T) {
	l, x := kept(t, 4096, story())
	want(t, "Snapshot", l.Snapshot(), api.OK)
	takes(t, l, later())
	model := behind(t, append(story(), later()...))
	for what, do := range map[string]func(*Ledger) api.Errno{
		"Snapshot": (*Ledger).Snapshot,
		"Trim":     func(l *Ledger) api.Errno { _, why := l.Trim(0); return why },
	} {
		cut := 0
		for fuse := 0; ; fuse++ {
			y := copied(t, x)
			m := on(t, y, 4096)
			want(t, "Fuse", y.Fuse(fuse), api.OK)
			if why := do(m); why == api.OK {
				break
			} else {
				want(t, what, why, api.ErrDown)
			}
			cut++
			for _, keep := range [][]int{nil, {0}, {1}, {40}, {99999}} {
				z := copied(t, y)
				z.Crash(keep)
				alike(t, what, on(t, z, 4096), model)
			}
		}
		if cut == 0 {
			t.Errorf("%s was never cut", what)
		}
	}
}
