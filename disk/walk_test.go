package disk

import (
	"bytes"
	"slices"
	"strings"
	"testing"

	"daybook/api"
)

// taken is a step that was done: its answer, and the states on both sides of it.
type taken struct {
	step
	answer
	before, after api.Disk
}

// walk does many random calls, each on a disk and on the plain one, and hands each to look.
func walk(t *testing.T, look func(taken)) {
	r := source()
	for round := range 200 {
		capacity := []int{0, 1, 7, 20, 60, 1000}[round%6]
		d, e := New(capacity)
		if e != api.OK {
			t.Fatalf("New(%d): %d", capacity, int(e))
		}
		p := &plain{api.Disk{Capacity: capacity, Fuse: -1}}
		for range 120 {
			s := anyStep(r)
			before := d.State()
			a := s.do(d)
			if !same(t, s.what, a, s.do(p)) || !same(t, "State behind "+s.what, show(d.State()), show(p.State())) {
				return
			}
			look(taken{s, a, before, d.State()})
		}
	}
}

// Every call answers as 3.1 and 3.2 word it, and leaves what they say.
func TestP3_3ToP3_11AsThePlainDisk(t *testing.T) {
	seen := map[api.Errno]int{}
	walk(t, func(c taken) { seen[c.e]++ })
	for _, e := range []api.Errno{api.OK, api.ErrArg, api.ErrFull, api.ErrNone, api.ErrName, api.ErrThere, api.ErrDown} {
		if seen[e] < 50 {
			t.Errorf("only %d answers of %d", seen[e], int(e))
		}
	}
}

func TestP3_12SyncedStays(t *testing.T) {
	walk(t, func(c taken) {
		for _, f := range c.before.Files {
			if slices.Contains(c.gone, f.Name) {
				continue
			}
			i := (&plain{c.after}).at(f.Name)
			if i < 0 {
				t.Errorf("%s took %s", c.what, f.Name)
				continue
			}
			g := c.after.Files[i]
			if g.Synced < f.Synced || !bytes.Equal(g.Data[:f.Synced], f.Data[:f.Synced]) {
				t.Errorf("%s: %v became %v", c.what, f, g)
			}
			if strings.HasPrefix(c.what, "Crash") && !bytes.HasPrefix(f.Data, g.Data) {
				t.Errorf("%s: %v is no beginning of %v", c.what, g, f)
			}
		}
	})
}

func TestP3_13AllOrNothing(t *testing.T) {
	walk(t, func(c taken) {
		if c.e == api.OK {
			return
		}
		if c.after.Down && !c.before.Down {
			c.before.Down, c.before.Fuse = true, -1
		}
		same(t, "State behind a refused "+c.what, show(c.after), show(c.before))
	})
}

func TestP3_14Bytes(t *testing.T) {
	walk(t, func(c taken) {
		if n := (&plain{c.after}).bytes(); n > c.after.Capacity {
			t.Errorf("behind %s: %d bytes of %d", c.what, n, c.after.Capacity)
		}
	})
	d := from(t, of(file1("a", "", 0)))
	var put []byte
	for i := range 90 {
		b := bytes.Repeat([]byte{byte(i)}, i%7)
		want(t, "Append", d.Append("a", b), api.OK)
		put = append(put, b...)
		got, e := d.Read("a", 0, len(put))
		if e != api.OK || !bytes.Equal(got, put) {
			t.Fatalf("Read behind %d Appends: %v %d", i+1, got, int(e))
		}
	}
}

func TestP3_15NothingChangesWhileDown(t *testing.T) {
	n := 0
	walk(t, func(c taken) {
		if c.before.Down && !strings.HasPrefix(c.what, "Crash") {
			n++
			same(t, "State behind "+c.what+", down", show(c.after), show(c.before))
		}
	})
	if n < 50 {
		t.Errorf("only %d calls were made on a disk that is down", n)
	}
}

func TestP3_16GoesOnAlike(t *testing.T) {
	r := source()
	for range 150 {
		d, _ := New(50)
		for range r.IntN(60) {
			anyStep(r).do(d)
		}
		twin := from(t, d.State())
		for range 60 {
			s := anyStep(r)
			if !same(t, s.what, s.do(twin), s.do(d)) || !same(t, "State behind "+s.what, show(twin.State()), show(d.State())) {
				return
			}
		}
	}
}
