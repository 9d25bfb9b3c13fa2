package disk

import (
	"testing"

	"daybook/api"
)

func TestExample1Calls(t *testing.T) {
	d, _ := New(10)
	want(t, "Create a", d.Create("a"), api.OK)
	want(t, "again", d.Create("a"), api.ErrThere)
	for _, n := range []string{"A", "", "a/b"} {
		want(t, "Create "+n, d.Create(n), api.ErrName)
	}
	want(t, "Append hello", d.Append("a", []byte("hello")), api.OK)
	want(t, "Append world!", d.Append("a", []byte("world!")), api.ErrFull)
	if d.Free() != 5 {
		t.Errorf("Free %d", d.Free())
	}
	want(t, "Append to b", d.Append("b", []byte("x")), api.ErrNone)
	if n, e := d.Size("a"); n != 5 || e != api.OK {
		t.Errorf("Size %d %d", n, int(e))
	}
	if b, e := d.Read("a", 1, 3); string(b) != "ell" || e != api.OK {
		t.Errorf("Read %q %d", b, int(e))
	}
	if b, e := d.Read("a", 4, 2); b != nil || e != api.ErrArg {
		t.Errorf("Read %q %d", b, int(e))
	}
	if b, e := d.Read("a", 5, 0); len(b) != 0 || e != api.OK {
		t.Errorf("Read %q %d", b, int(e))
	}
}

// behindTwo: the disk of the second example ahead of its crash.
func behindTwo(t *testing.T) *Disk {
	d, _ := New(10)
	want(t, "Create", d.Create("a"), api.OK)
	want(t, "Append", d.Append("a", []byte("hello")), api.OK)
	want(t, "Sync", d.Sync("a"), api.OK)
	want(t, "Append", d.Append("a", []byte("abc")), api.OK)
	same(t, "State", files(d), "a=helloabc:5")
	return d
}

func TestExample2Crashes(t *testing.T) {
	for _, x := range []struct {
		keep []int
		want string
	}{{[]int{2}, "a=helloab:7"}, {nil, "a=hello:5"}, {[]int{-1}, "a=hello:5"}, {[]int{9}, "a=helloabc:8"}} {
		d := behindTwo(t)
		d.Crash(x.keep)
		same(t, "Crash", files(d), x.want)
	}
}

func TestExample3And4RenameAndFuse(t *testing.T) {
	d := behindTwo(t)
	want(t, "Create t", d.Create("t"), api.OK)
	want(t, "Append xy", d.Append("t", []byte("xy")), api.OK)
	want(t, "Rename", d.Rename("t", "a"), api.OK)
	same(t, "behind Rename", files(d), "a=xy:0")
	d.Crash([]int{})
	same(t, "behind the crash", files(d), "a=:0")

	want(t, "Fuse(1)", d.Fuse(1), api.OK)
	want(t, "Append", d.Append("a", []byte("1")), api.OK)
	want(t, "Append to zz", d.Append("zz", []byte("1")), api.ErrNone)
	want(t, "Sync", d.Sync("a"), api.ErrDown)
	want(t, "Append", d.Append("a", []byte("1")), api.ErrDown)
	want(t, "Fuse", d.Fuse(1), api.ErrDown)
	_, e := d.Read("a", 0, 0)
	want(t, "Read", e, api.ErrDown)
	_, e = d.Size("a")
	want(t, "Size", e, api.ErrDown)
	_, e = d.List()
	want(t, "List", e, api.ErrDown)
	if d.Free() != 9 || !d.Down() {
		t.Errorf("Free %d, Down %v", d.Free(), d.Down())
	}
	same(t, "State", show(d.State()), show(api.Disk{Capacity: 10, Files: []api.File{file1("a", "1", 0)}, Fuse: -1, Down: true}))
	d.Crash([]int{0, 1})
	same(t, "State", show(d.State()), show(api.Disk{Capacity: 10, Files: []api.File{file1("a", "", 0)}, Fuse: -1}))
}

func TestExample5And6(t *testing.T) {
	d := from(t, of(file1("a", "aa", 0), file1("b", "bb", 0), file1("c", "cc", 0)))
	d.Crash([]int{1, 2})
	same(t, "Crash of 1, 2", files(d), "a=a:1 b=bb:2 c=c:1")

	want(t, "Fuse(-2)", d.Fuse(-2), api.ErrArg)
	if d, e := New(-1); d != nil || e != api.ErrArg {
		t.Errorf("New(-1): %v %d", d, int(e))
	}
	if d, e := From(api.Disk{Capacity: 10, Fuse: 0, Down: true}); d != nil || e != api.ErrState {
		t.Errorf("From: %v %d", d, int(e))
	}
}
