package disk

import (
	"fmt"
	"testing"

	"daybook/api"
)

func TestP3_10Fuse(t *testing.T) {
	d := from(t, of(file1("a", "", 0)))
	for _, n := range []int{-1, 0, 1, 2, api.MaxFuse - 1, api.MaxFuse} {
		want(t, fmt.Sprint("Fuse ", n), d.Fuse(n), api.OK)
		if got := d.State().Fuse; got != n {
			t.Errorf("Fuse(%d): %d", n, got)
		}
		for _, wrong := range []int{-2, api.MaxFuse + 1, most, least} {
			want(t, fmt.Sprint("Fuse ", wrong), d.Fuse(wrong), api.ErrArg)
		}
		if got := d.State().Fuse; got != n {
			t.Errorf("the fuse is %d behind refusals, want %d", got, n)
		}
	}
	want(t, "Fuse 0", d.Fuse(0), api.OK)
	want(t, "Sync", d.Sync("a"), api.ErrDown)
	want(t, "Fuse out of range, down", d.Fuse(-2), api.ErrArg)
	want(t, "Fuse, down", d.Fuse(-1), api.ErrDown)
	want(t, "Fuse, down", d.Fuse(5), api.ErrDown)
	same(t, "State", show(d.State()), show(api.Disk{Capacity: 1000, Files: []api.File{file1("a", "", 0)}, Fuse: -1, Down: true}))
}

// changes: the five changing calls, each of which is taken on start.
func changes() []step {
	return []step{
		{what: "Create", do: func(d calls) answer { return done(d.Create("c")) }},
		{what: "Append", do: func(d calls) answer { return done(d.Append("a", []byte("x"))) }},
		{what: "Append of nothing", do: func(d calls) answer { return done(d.Append("a", nil)) }},
		{what: "Sync", do: func(d calls) answer { return done(d.Sync("a")) }},
		{what: "Rename", do: func(d calls) answer { return done(d.Rename("a", "b")) }},
		{what: "Rename to itself", do: func(d calls) answer { return done(d.Rename("a", "a")) }},
		{what: "Remove", do: func(d calls) answer { return done(d.Remove("a")) }},
	}
}

// others: calls that are refused, and calls that look; none of them counts.
func others() []step {
	return []step{
		{what: "Create", do: func(d calls) answer { return done(d.Create("a")) }},
		{what: "Create", do: func(d calls) answer { return done(d.Create("?")) }},
		{what: "Append", do: func(d calls) answer { return done(d.Append("c", nil)) }},
		{what: "Append", do: func(d calls) answer { return done(d.Append("a", make([]byte, 2000))) }},
		{what: "Sync", do: func(d calls) answer { return done(d.Sync("c")) }},
		{what: "Rename", do: func(d calls) answer { return done(d.Rename("c", "a")) }},
		{what: "Remove", do: func(d calls) answer { return done(d.Remove("")) }},
		{what: "Read", do: func(d calls) answer { return told(d.Read("a", 0, 1)) }},
		{what: "Read", do: func(d calls) answer { return told(d.Read("a", 0, 100)) }},
		{what: "Size", do: func(d calls) answer { return told(d.Size("a")) }},
		{what: "List", do: func(d calls) answer { return told(d.List()) }},
		{what: "Free", do: func(d calls) answer { return told(d.Free(), api.OK) }},
	}
}

func start() api.Disk { return of(file1("a", "hello", 2), file1("b", "xy", 2)) }

func TestP3_10ChangingCallsCount(t *testing.T) {
	for _, fuse := range []int{1, 2, api.MaxFuse} {
		for _, c := range changes() {
			d := from(t, start())
			want(t, "Fuse", d.Fuse(fuse), api.OK)
			same(t, c.what, c.do(d), done(api.OK))
			if got := d.State().Fuse; got != fuse-1 {
				t.Errorf("%s: the fuse %d became %d", c.what, fuse, got)
			}
		}
		for _, c := range others() {
			d := from(t, start())
			want(t, "Fuse", d.Fuse(fuse), api.OK)
			c.do(d)
			if got := d.State().Fuse; got != fuse || d.Down() {
				t.Errorf("%s: the fuse %d became %d", c.what, fuse, got)
			}
		}
	}
	for _, c := range changes() {
		d := from(t, start())
		same(t, c.what, c.do(d), done(api.OK))
		if got := d.State().Fuse; got != -1 {
			t.Errorf("%s: no fuse became %d", c.what, got)
		}
	}
}

func TestP3_13ThePowerFails(t *testing.T) {
	for _, c := range changes() {
		d := from(t, start())
		want(t, "Fuse", d.Fuse(0), api.OK)
		for _, o := range others() {
			o.do(d)
		}
		if d.Down() {
			t.Error("the power failed at a call that is none")
		}
		same(t, c.what, c.do(d), done(api.ErrDown))
		s := start()
		s.Down = true
		same(t, "behind "+c.what, show(d.State()), show(s))
	}
}

// Down is looked at ahead of all else, and nothing changes.
func TestP3_15DownComesFirst(t *testing.T) {
	s := start()
	s.Down = true
	d := from(t, s)
	for _, n := range []string{"a", "c", "", "?"} {
		b, e := d.Read(n, -1, 5)
		size, e2 := d.Size(n)
		l, e3 := d.List()
		if b != nil || e != api.ErrDown || size != 0 || e2 != api.ErrDown || l != nil || e3 != api.ErrDown {
			t.Errorf("Read, Size, List of %q: %v %d %d %d %v %d", n, b, int(e), size, int(e2), l, int(e3))
		}
		want(t, "Create "+n, d.Create(n), api.ErrDown)
		want(t, "Append "+n, d.Append(n, make([]byte, 2000)), api.ErrDown)
		want(t, "Sync "+n, d.Sync(n), api.ErrDown)
		want(t, "Rename "+n, d.Rename(n, n), api.ErrDown)
		want(t, "Remove "+n, d.Remove(n), api.ErrDown)
	}
	same(t, "State", show(d.State()), show(s))
	if d.Free() != 993 || !d.Down() {
		t.Errorf("Free %d, Down %v", d.Free(), d.Down())
	}
}

func TestP3_11Crash(t *testing.T) {
	all := []api.File{file1("a", "12345", 2), file1("b", "12", 0), file1("c", "123", 3), file1("d", "1234", 1), file1("e", "", 0)}
	for _, x := range []struct {
		keep []int
		want string
	}{
		{nil, "a=12:2 b=:0 c=123:3 d=1:1 e=:0"},
		{[]int{}, "a=12:2 b=:0 c=123:3 d=1:1 e=:0"},
		{[]int{0}, "a=12:2 b=:0 c=123:3 d=1:1 e=:0"},
		{[]int{-1}, "a=12:2 b=:0 c=123:3 d=1:1 e=:0"},
		{[]int{least}, "a=12:2 b=:0 c=123:3 d=1:1 e=:0"},
		{[]int{1}, "a=123:3 b=1:1 c=123:3 d=12:2 e=:0"},
		{[]int{2}, "a=1234:4 b=12:2 c=123:3 d=123:3 e=:0"},
		{[]int{3}, "a=12345:5 b=12:2 c=123:3 d=1234:4 e=:0"},
		{[]int{most}, "a=12345:5 b=12:2 c=123:3 d=1234:4 e=:0"},
		{[]int{1, 2}, "a=123:3 b=12:2 c=123:3 d=123:3 e=:0"},
		{[]int{most, least}, "a=12345:5 b=:0 c=123:3 d=1:1 e=:0"},
		{[]int{0, 0, 0, 1}, "a=12:2 b=:0 c=123:3 d=12:2 e=:0"},
		{[]int{0, 0, 1}, "a=12:2 b=:0 c=123:3 d=1:1 e=:0"},
		{[]int{0, 1, 0, 0, 0, 7, 7}, "a=12:2 b=1:1 c=123:3 d=1:1 e=:0"},
	} {
		for _, before := range []api.Disk{{Fuse: -1}, {Fuse: 0}, {Fuse: 7}, {Fuse: -1, Down: true}} {
			before.Capacity, before.Files = 20, all
			d := from(t, before)
			d.Crash(x.keep)
			same(t, fmt.Sprint("Crash ", x.keep), files(d), x.want)
			if s := d.State(); s.Fuse != -1 || s.Down || s.Capacity != 20 {
				t.Errorf("behind the crash: %+v", s)
			}
		}
	}
}

// What a crash has cut off does not come back, and what it left is as any other file.
func TestP3_11GoesOnBehindIt(t *testing.T) {
	d := from(t, of(file1("a", "hello", 2)))
	keep := []int{1}
	d.Crash(keep)
	if keep[0] != 1 {
		t.Error("keep was changed")
	}
	want(t, "Append", d.Append("a", []byte("X")), api.OK)
	same(t, "behind Append", files(d), "a=helX:3")
	d.Crash([]int{most})
	same(t, "behind another crash", files(d), "a=helX:4")
	d.Crash(nil)
	same(t, "behind a third one", files(d), "a=helX:4")
	empty, _ := New(0)
	empty.Crash([]int{1})
	same(t, "an empty disk", files(empty), "")
}
