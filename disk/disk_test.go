package disk

import (
	"fmt"
	"strings"
	"testing"

	"daybook/api"
)

func TestP3_1New(t *testing.T) {
	for _, n := range []int{0, 1, 10, api.MaxDisk - 1, api.MaxDisk} {
		d, e := New(n)
		if e != api.OK || d == nil {
			t.Fatalf("New(%d): %d", n, int(e))
		}
		same(t, "State", show(d.State()), show(api.Disk{Capacity: n, Fuse: -1}))
		if d.Free() != n || d.Down() {
			t.Errorf("New(%d): Free %d, Down %v", n, d.Free(), d.Down())
		}
	}
	for _, n := range []int{-1, api.MaxDisk + 1, most, least} {
		if d, e := New(n); d != nil || e != api.ErrArg {
			t.Errorf("New(%d): %v %d", n, d, int(e))
		}
	}
}

func TestP3_1TwoDisksAreTwo(t *testing.T) {
	a, _ := New(10)
	b, _ := New(10)
	want(t, "Create", a.Create("x"), api.OK)
	same(t, "the other one", files(b), "")
}

// names: one that holds every byte that may be, and the longest and the shortest.
func names() []string {
	return []string{"a", "z", "0", "9", ".", "-", "_", strings.Repeat("x", api.MaxName), "abcdefghijklmnopqrstuvwxyz0123456789.-_"}
}

// noNames holds every byte that may not be, alone, at the front, in the midst and at the end.
func noNames() []string {
	l := []string{"", strings.Repeat("x", api.MaxName+1), strings.Repeat("x", 1000), "é", "a/b", "A"}
	for b := range 256 {
		if !strings.Contains("abcdefghijklmnopqrstuvwxyz0123456789.-_", string([]byte{byte(b)})) {
			c := string([]byte{byte(b)})
			l = append(l, c, c+"a", "a"+c+"a", "a"+c)
		}
	}
	return l
}

func many(n int) []api.File {
	var l []api.File
	for i := range n {
		l = append(l, api.File{Name: fmt.Sprintf("f%02d", i)})
	}
	return l
}

func TestP3_2StatesThatCanBe(t *testing.T) {
	states := []api.Disk{
		{},
		{Fuse: -1},
		{Fuse: 1},
		{Capacity: api.MaxDisk, Fuse: api.MaxFuse},
		{Fuse: -1, Down: true},
		{Fuse: -1, Files: many(api.MaxFiles)},
		{Capacity: 5, Fuse: -1, Files: []api.File{file1("a", "abc", 0), file1("b", "de", 2)}},
		{Capacity: api.MaxDisk, Fuse: 0, Files: []api.File{file1("a", strings.Repeat("\x00\xff", api.MaxDisk/2), api.MaxDisk)}},
		of(file1("-", "", 0), file1(".", "", 0), file1("0", "", 0), file1("_", "", 0), file1("a", "", 0), file1("a-", "x", 1)),
	}
	for _, n := range names() {
		states = append(states, of(file1(n, "ab", 1)))
	}
	for _, s := range states {
		d := from(t, s)
		if got := show(d.State()); got != show(s) {
			t.Errorf("State of From(%.200s): %.200s", show(s), got)
		}
	}
}

func TestP3_2StatesThatCannotBe(t *testing.T) {
	states := []api.Disk{
		{Capacity: -1, Fuse: -1},
		{Capacity: api.MaxDisk + 1, Fuse: -1},
		{Capacity: most, Fuse: -1},
		{Capacity: least, Fuse: -1},
		{Fuse: -2},
		{Fuse: api.MaxFuse + 1},
		{Fuse: most},
		{Fuse: least},
		{Fuse: 0, Down: true},
		{Fuse: 1, Down: true},
		{Fuse: api.MaxFuse, Down: true},
		{Fuse: -1, Files: many(api.MaxFiles + 1)},
		{Capacity: 4, Fuse: -1, Files: []api.File{file1("a", "abc", 0), file1("b", "de", 2)}},
		{Capacity: 0, Fuse: -1, Files: []api.File{file1("a", "x", 0)}},
		of(file1("a", "", 0), file1("a", "", 0)),
		of(file1("b", "", 0), file1("a", "", 0)),
		of(file1("a", "", 0), file1("c", "", 0), file1("b", "", 0)),
		of(file1("ab", "", 0), file1("a", "", 0)),
		of(file1("a", "xy", 3)),
		of(file1("a", "xy", -1)),
		of(file1("a", "", 1)),
		of(file1("a", "xy", most)),
		of(file1("a", "xy", least)),
		of(file1("a", "xy", 2), file1("b", "xy", 3)),
	}
	for _, n := range noNames() {
		states = append(states, of(file1(n, "", 0)))
	}
	for _, s := range states {
		if d, e := From(s); d != nil || e != api.ErrState {
			t.Errorf("From(%.200s): %v %d", show(s), d, int(e))
		}
	}
}

func TestP3_2StateSharesNothing(t *testing.T) {
	s := of(file1("a", "hello", 5), file1("b", "x", 0))
	d := from(t, s)
	s.Files[0].Data[0], s.Files[1].Name = 'J', "z"
	same(t, "behind a change of what was handed in", files(d), "a=hello:5 b=x:0")
	got := d.State()
	got.Files[0].Data[0], got.Files[0].Synced, got.Files[1].Name = 'J', 0, "z"
	_ = append(got.Files[0].Data, "wide"...)
	same(t, "behind a change of what was told", files(d), "a=hello:5 b=x:0")
	first, second := d.State(), d.State()
	first.Files[0].Data[0] = 'J'
	if string(second.Files[0].Data) != "hello" {
		t.Error("two answers share their bytes")
	}
	want(t, "Append", d.Append("a", []byte("!")), api.OK)
	if string(second.Files[0].Data) != "hello" || string(second.Files[0].Data[:cap(second.Files[0].Data)]) == "hello!" {
		t.Error("the disk writes into what it told")
	}
}

func TestP3_9FreeAndDown(t *testing.T) {
	d := from(t, api.Disk{Capacity: 10, Fuse: -1, Files: []api.File{file1("a", "abc", 3), file1("b", "de", 0)}})
	if d.Free() != 5 || d.Down() {
		t.Errorf("Free %d, Down %v", d.Free(), d.Down())
	}
	want(t, "Append of all the room", d.Append("b", []byte("12345")), api.OK)
	if d.Free() != 0 {
		t.Errorf("Free of a full disk: %d", d.Free())
	}
	want(t, "Remove", d.Remove("a"), api.OK)
	want(t, "Fuse", d.Fuse(0), api.OK)
	want(t, "Sync", d.Sync("b"), api.ErrDown)
	if d.Free() != 3 || !d.Down() {
		t.Errorf("down: Free %d, Down %v", d.Free(), d.Down())
	}
	d.Crash([]int{1})
	if d.Free() != 9 || d.Down() {
		t.Errorf("behind the crash: Free %d, Down %v", d.Free(), d.Down())
	}
}

// A Disk that nobody made is that of the zero state, and takes every call.
func TestP3_16TheZeroDisk(t *testing.T) {
	var d Disk
	same(t, "State", show(d.State()), show(api.Disk{}))
	want(t, "Create on its fuse", d.Create("a"), api.ErrDown)
	d.Crash(nil)
	want(t, "Create", d.Create("a"), api.OK)
	want(t, "Append", d.Append("a", []byte("x")), api.ErrFull)
	same(t, "State", files(&d), "a=:0")
}
