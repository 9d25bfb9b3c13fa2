package rebuild

import (
	"testing"

	"daybook/api"
)

// seven: the events of DOC.md's examples 1 and 2.
func seven() []api.Event {
	return []api.Event{
		open(d, "Assets", api.Asset), open(d, bank, 0), open(d, "Income", api.Income), open(d, work, 0), open(d, cust, 0), open(d, ann, 0),
		invoice(d+9, "i1", ann, work, d+39, 10000),
	}
}

func TestExample1Replay(t *testing.T) {
	l, _ := logOf(t, 4096, seven())
	s := New()
	replays := func(from int, want api.Errno) {
		t.Helper()
		if got := s.Replay(l, from); got != want || s.Book().Len() != 7 {
			t.Errorf("Replay(l, %d): %d, want %d; Len %d", from, got, want, s.Book().Len())
		}
		has(t, s, plainSnap(t, seven()))
	}
	replays(0, api.OK)
	replays(7, api.OK)
	replays(8, api.ErrArg)
	replays(-1, api.ErrArg)
	replays(0, api.ErrExists)
}

func TestExample2Steps(t *testing.T) {
	l, _ := logOf(t, 4096, seven())
	j := Begin(l)
	steps(t, j, 3, false, api.OK, 3)
	steps(t, j, 3, false, api.OK, 6)
	if j.Set() != nil {
		t.Error("there is a set")
	}
	add(t, l, lock(d+14))
	steps(t, j, 3, false, api.OK, 8)
	steps(t, j, 3, true, api.OK, 8)
	if j.Set().Book().Len() != 8 {
		t.Errorf("Len %d", j.Set().Book().Len())
	}
	steps(t, j, 0, false, api.ErrArg, 8)
	steps(t, j, 1, true, api.OK, 8)
	has(t, j.Set(), plainSnap(t, append(seven(), lock(d+14))))
}

func TestExample3EmptyLog(t *testing.T) {
	l, _ := logOf(t, 4096, nil)
	j := Begin(l)
	steps(t, j, 1, true, api.OK, 0)
	has(t, j.Set(), New().Snap())
}

func TestExample4Snap(t *testing.T) {
	x := New().Snap()
	if !alike(x, api.Snap{AsOf: 1}) {
		t.Errorf("%+v", x)
	}
	x.AsOf = 0
	refused(t, "AsOf 0", x, api.ErrView)
	x.AsOf = 5
	has(t, from(t, x), x)
	x = snapBehind(t, seven())
	x.Balances = append(x.Balances, api.Balance{Account: "Z", Own: 1, Rollup: 1})
	refused(t, "a Balance more", x, api.ErrView)
	x = snapBehind(t, seven())
	x.Base.Events = 1001
	refused(t, "Events 1001", x, api.ErrBase)
}

func TestExample5NoEvent(t *testing.T) {
	l, _ := logOf(t, 4096, seven())
	addBytes(t, l, []byte("x"))
	s := New()
	if why := s.Replay(l, 0); why != api.ErrEvent {
		t.Errorf("Replay: %d", why)
	}
	has(t, s, plainSnap(t, seven()))
	j := Begin(l)
	for range 5 {
		steps(t, j, 100, false, api.ErrEvent, 7)
	}
	l, _ = logOf(t, 4096, nil)
	addBytes(t, l, []byte("x"))
	j = Begin(l)
	for range 5 {
		steps(t, j, 1, false, api.ErrEvent, 0)
	}
}
