package disk

import (
	"strings"
	"testing"

	"daybook/api"
)

func TestP3_3Create(t *testing.T) {
	for _, n := range names() {
		d, _ := New(0)
		want(t, "Create "+n, d.Create(n), api.OK)
		same(t, "behind it", files(d), n+"=:0")
		want(t, "Create again", d.Create(n), api.ErrThere)
		d.Crash(nil)
		same(t, "behind a crash", files(d), n+"=:0")
	}
	d := from(t, of())
	for _, n := range noNames() {
		want(t, "Create "+n, d.Create(n), api.ErrName)
	}
	same(t, "State", show(d.State()), show(of()))
}

func TestP3_3ManyFiles(t *testing.T) {
	d := from(t, of(many(api.MaxFiles-1)...))
	want(t, "Create of the last", d.Create("last"), api.OK)
	want(t, "Create of one more", d.Create("more"), api.ErrMany)
	want(t, "Create of one that is there", d.Create("last"), api.ErrThere)
	want(t, "Create of no name", d.Create("?"), api.ErrName)
	want(t, "Remove", d.Remove("f00"), api.OK)
	want(t, "Create", d.Create("more"), api.OK)
	want(t, "Create", d.Create("f00"), api.ErrMany)
	want(t, "Rename", d.Rename("f01", "f02"), api.OK)
	want(t, "Create behind a rename over a file", d.Create("f00"), api.OK)
}

func TestP3_4Append(t *testing.T) {
	d := from(t, api.Disk{Capacity: 8, Fuse: -1, Files: []api.File{file1("a", "abc", 2), file1("b", "x", 0)}})
	for _, n := range noNames() {
		want(t, "Append to "+n, d.Append(n, []byte("123456789")), api.ErrName)
	}
	want(t, "Append to none", d.Append("c", []byte("123456789")), api.ErrNone)
	want(t, "Append of too much", d.Append("a", []byte("12345")), api.ErrFull)
	same(t, "behind refusals", files(d), "a=abc:2 b=x:0")
	want(t, "Append of nothing", d.Append("a", nil), api.OK)
	want(t, "Append of nothing", d.Append("a", []byte{}), api.OK)
	want(t, "Append", d.Append("a", []byte("123")), api.OK)
	same(t, "behind Append", files(d), "a=abc123:2 b=x:0")
	want(t, "Append", d.Append("b", []byte("yz")), api.ErrFull)
	want(t, "Append", d.Append("b", []byte("y")), api.OK)
	want(t, "Append of nothing on a full disk", d.Append("b", nil), api.OK)
	want(t, "Append on a full disk", d.Append("b", []byte("z")), api.ErrFull)
	same(t, "full", files(d), "a=abc123:2 b=xy:0")
}

func TestP3_4WholeDisk(t *testing.T) {
	d, _ := New(api.MaxDisk)
	want(t, "Create", d.Create("a"), api.OK)
	want(t, "Append of too much", d.Append("a", make([]byte, api.MaxDisk+1)), api.ErrFull)
	want(t, "Append of all", d.Append("a", make([]byte, api.MaxDisk)), api.OK)
	if n, e := d.Size("a"); n != api.MaxDisk || e != api.OK || d.Free() != 0 {
		t.Errorf("Size %d %d, Free %d", n, int(e), d.Free())
	}
}

func TestP3_4KeepsNoBytesOfTheCaller(t *testing.T) {
	d := from(t, of(file1("a", "", 0)))
	b := []byte("abcdef")
	want(t, "Append", d.Append("a", b[:3]), api.OK)
	b[0] = 'X'
	want(t, "Append", d.Append("a", []byte("123")), api.OK)
	same(t, "the disk", files(d), "a=abc123:0")
	same(t, "the caller's bytes", string(b), "Xbcdef")
}

// No bytes in b: it counts on the fuse all the same.
func TestP3_4NothingIsAChange(t *testing.T) {
	d := from(t, of(file1("a", "", 0)))
	want(t, "Fuse", d.Fuse(1), api.OK)
	want(t, "Append of nothing", d.Append("a", nil), api.OK)
	want(t, "Append of nothing", d.Append("a", nil), api.ErrDown)
}

func TestP3_5Sync(t *testing.T) {
	d := from(t, of(file1("a", "abc", 1), file1("b", "xy", 0)))
	for _, n := range noNames() {
		want(t, "Sync "+n, d.Sync(n), api.ErrName)
	}
	want(t, "Sync of none", d.Sync("c"), api.ErrNone)
	same(t, "behind refusals", files(d), "a=abc:1 b=xy:0")
	want(t, "Sync", d.Sync("a"), api.OK)
	same(t, "behind Sync", files(d), "a=abc:3 b=xy:0")
	want(t, "Append", d.Append("a", []byte("d")), api.OK)
	d.Crash(nil)
	same(t, "behind a crash", files(d), "a=abc:3 b=:0")
}

func TestP3_6Rename(t *testing.T) {
	start := of(file1("a", "abc", 1), file1("b", "xy", 2))
	d := from(t, start)
	for _, n := range noNames() {
		want(t, "Rename from "+n, d.Rename(n, "b"), api.ErrName)
		want(t, "Rename to "+n, d.Rename("a", n), api.ErrName)
		want(t, "Rename of none to "+n, d.Rename("none", n), api.ErrName)
		want(t, "Rename twice "+n, d.Rename(n, n), api.ErrName)
	}
	want(t, "Rename of none", d.Rename("c", "a"), api.ErrNone)
	want(t, "Rename of none to none", d.Rename("c", "c"), api.ErrNone)
	same(t, "behind refusals", show(d.State()), show(start))
	want(t, "Rename to itself", d.Rename("a", "a"), api.OK)
	same(t, "behind it", show(d.State()), show(start))
	want(t, "Rename", d.Rename("a", "z"), api.OK)
	same(t, "behind Rename", files(d), "b=xy:2 z=abc:1")
	want(t, "Rename over a file", d.Rename("z", "b"), api.OK)
	same(t, "behind it", files(d), "b=abc:1")
	d.Crash([]int{1})
	same(t, "behind a crash", files(d), "b=ab:2")
}

// A rename to itself changes the fuse, and the power fails at it.
func TestP3_6RenameToItselfBurnsTheFuse(t *testing.T) {
	d := from(t, of(file1("a", "abc", 1)))
	want(t, "Fuse", d.Fuse(1), api.OK)
	want(t, "Rename", d.Rename("a", "a"), api.OK)
	if d.State().Fuse != 0 {
		t.Errorf("Fuse %d", d.State().Fuse)
	}
	want(t, "Rename", d.Rename("a", "a"), api.ErrDown)
	same(t, "behind it", files(d), "a=abc:1")
}

func TestP3_7Remove(t *testing.T) {
	d := from(t, of(file1("a", "abc", 3), file1("b", "xy", 0)))
	for _, n := range noNames() {
		want(t, "Remove "+n, d.Remove(n), api.ErrName)
	}
	want(t, "Remove of none", d.Remove("c"), api.ErrNone)
	same(t, "behind refusals", files(d), "a=abc:3 b=xy:0")
	want(t, "Remove", d.Remove("a"), api.OK)
	want(t, "Remove again", d.Remove("a"), api.ErrNone)
	d.Crash([]int{most})
	same(t, "behind a crash", files(d), "b=xy:2")
	want(t, "Create", d.Create("a"), api.OK)
	same(t, "anew", files(d), "a=:0 b=xy:2")
	if d.Free() != 998 {
		t.Errorf("Free: %d", d.Free())
	}
}

func TestP3_8Read(t *testing.T) {
	d := from(t, of(file1("a", "hello", 2), file1("b", "", 0)))
	for _, x := range []struct {
		name  string
		at, n int
		want  string
		e     api.Errno
	}{
		{"a", 0, 5, "hello", api.OK}, {"a", 1, 3, "ell", api.OK}, {"a", 4, 1, "o", api.OK}, {"a", 5, 0, "", api.OK}, {"a", 0, 0, "", api.OK}, {"b", 0, 0, "", api.OK},
		{"a", 4, 2, "", api.ErrArg}, {"a", 6, 0, "", api.ErrArg}, {"a", 0, 6, "", api.ErrArg}, {"b", 0, 1, "", api.ErrArg}, {"b", 1, 0, "", api.ErrArg},
		{"a", -1, 1, "", api.ErrArg}, {"a", 1, -1, "", api.ErrArg}, {"a", -1, -1, "", api.ErrArg}, {"a", 6, -1, "", api.ErrArg}, {"a", -1, 6, "", api.ErrArg},
		{"a", 1, most, "", api.ErrArg}, {"a", most, 1, "", api.ErrArg}, {"a", most, most, "", api.ErrArg}, {"a", most, 0, "", api.ErrArg}, {"a", 0, most, "", api.ErrArg},
		{"a", least, 1, "", api.ErrArg}, {"a", 1, least, "", api.ErrArg}, {"a", least, least, "", api.ErrArg}, {"a", least, most, "", api.ErrArg}, {"a", most, least, "", api.ErrArg},
		{"c", -1, 0, "", api.ErrNone}, {"C", -1, 0, "", api.ErrName}, {"", 0, 0, "", api.ErrName},
	} {
		b, e := d.Read(x.name, x.at, x.n)
		if string(b) != x.want || e != x.e || e != api.OK && b != nil {
			t.Errorf("Read(%s, %d, %d): %q %d, want %q %d", x.name, x.at, x.n, b, int(e), x.want, int(x.e))
		}
	}
}

func TestP3_8SizeAndList(t *testing.T) {
	d := from(t, of(file1("-", "", 0), file1(".", "x", 0), file1("0", "ab", 1), file1("_", "abc", 3), file1("a", "abcd", 0), file1("a-", "", 0), file1("ab", "", 0)))
	for name, size := range map[string]int{"-": 0, ".": 1, "0": 2, "_": 3, "a": 4} {
		if n, e := d.Size(name); n != size || e != api.OK {
			t.Errorf("Size(%s): %d %d", name, n, int(e))
		}
	}
	for _, name := range noNames() {
		if n, e := d.Size(name); n != 0 || e != api.ErrName {
			t.Errorf("Size(%q): %d %d", name, n, int(e))
		}
		if b, e := d.Read(name, -1, 0); b != nil || e != api.ErrName {
			t.Errorf("Read(%q): %v %d", name, b, int(e))
		}
	}
	if n, e := d.Size("none"); n != 0 || e != api.ErrNone {
		t.Errorf("Size of none: %d %d", n, int(e))
	}
	l, e := d.List()
	want(t, "List", e, api.OK)
	same(t, "List", strings.Join(l, " "), "- . 0 _ a a- ab")
	empty, _ := New(5)
	if l, e := empty.List(); len(l) != 0 || e != api.OK {
		t.Errorf("List of an empty disk: %v %d", l, int(e))
	}
}

func TestP3_8WhatIsReadIsTheCallersOwn(t *testing.T) {
	d := from(t, of(file1("a", "hello", 5), file1("b", "x", 0)))
	b, _ := d.Read("a", 0, 3)
	other, _ := d.Read("a", 0, 3)
	b[0] = 'J'
	_ = append(b, "wide"...)
	_ = append(b[:0], "wide"...)
	same(t, "the disk", files(d), "a=hello:5 b=x:0")
	same(t, "another answer", string(other), "hel")
	l, _ := d.List()
	l[0] = "z"
	same(t, "the disk", files(d), "a=hello:5 b=x:0")
	if again, _ := d.List(); again[0] != "a" {
		t.Error("two lists share their names")
	}
}
