package ckpt

import (
	"fmt"
	"math"
	"reflect"
	"slices"
	"strings"
	"testing"

	"daybook/api"
	"daybook/disk"
)

func TestP11_3Names(t *testing.T) {
	for events := -2000; events <= 3000; events++ {
		wanted := ""
		if events >= 0 && events <= 1000 {
			wanted = fmt.Sprintf("ckpt-%06d", events)
		}
		same(t, fmt.Sprint("Name of ", events), Name(events), wanted)
	}
	for _, events := range []int{9999, 99999, 100000, 999999, 1000000, 1000012, math.MaxInt32, 1 << 32, 1<<32 + 5, 1<<63 - 1000000, most, -999999, -1000000, -1 << 32, least, least + 5} {
		same(t, fmt.Sprint("Name of ", events), Name(events), "")
	}
}

// nearly: names that are nearly a checkpoint's.
func nearly() []string {
	return []string{"ckpt-", "ckpt-0", "ckpt-1", "ckpt-00000", "ckpt-00001", "ckpt-0000001", "ckpt-0000000", "ckpt-0001000", "ckpt-001001", "ckpt-001010", "ckpt-001100", "ckpt-002000", "ckpt-010000", "ckpt-100000", "ckpt-999999", "ckpt-1000000", "ckpt-1000001",
		"ckpt--00001", "ckpt--1", "ckpt-00001-", "ckpt-00000a", "ckpt-a00001", "ckpt-0x0001", "ckpt-00001.", "ckpt-.00001", "ckpt-0_0001", "ckpt-00_001", "ckpt-1e0001", "ckpt-000001.tmp", "ckpt-000001-", "ckpt-000001a", "ckpt-000001_",
		"ckpt.000001", "ckpt_000001", "ckpt000001", "ckpt--000001", "ckpt-ckpt-000001", "xckpt-000001", "kpt-000001", "cckpt-000001", "log-000001", "-000001", "000001", "ckpt-18446744073709551617", "ckpt-9223372036854775807", "ckpt-9223372036854775808",
		"ckpt", "ckpt.", "ckpt.tm", "ckpt.tmp0", "ckpt.tmp.tmp", "ckpt-tmp", "ckpts", "log", "log.tmp", "mine", "."}
}

// What is no checkpoint's file is neither told, nor read, nor removed, nor in the way of anything.
func TestP11_3And11_11OtherNames(t *testing.T) {
	for _, name := range nearly() {
		d := of(t, file1(name, string(plainEncode(small(1, 5)))), snapFile(0, 7))
		mine := data(d, name)
		wantList(t, name, d, 0)
		wantNewest(t, name, d, most, true, small(0, 7))
		want(t, name, Write(d, small(1, 8)), api.OK)
		wantList(t, name, d, 0, 1)
		same(t, name, data(d, name), mine)
		n, e := Trim(d, 0)
		if n != 2 || e != api.OK {
			t.Errorf("%s: Trim: %d, error %d", name, n, int(e))
		}
		wantList(t, name, d)
		wantNewest(t, name, d, most, false, api.Snap{})
		same(t, name, data(d, name), mine)
		same(t, name, names(d), name)
	}
}

func TestP11_3EachFile(t *testing.T) {
	for _, events := range []int{0, 1, 9, 10, 99, 100, 999, 1000} {
		d := of(t, snapFile(events, 3))
		wantList(t, "one file", d, events)
		wantNewest(t, "one file", d, events, true, small(events, 3))
		wantNewest(t, "one file", d, events-1, false, api.Snap{})
		e := of(t)
		want(t, "Write", Write(e, small(events, 3)), api.OK)
		same(t, "the disk", shown(e), shown(d))
	}
}

func TestP11_4WrongArguments(t *testing.T) {
	files := []api.File{snapFile(3, 1), file1("ckpt.tmp", "left"), file1("log", "mine")}
	long := sized(api.MaxCkpt + 1)
	for _, events := range []int{-1, 1001, 1000000, 1 << 32, most, least} {
		long.Base.Events = events
		for what, s := range map[string]api.Snap{"small": small(events, 1), "too long too": long} {
			d := of(t, files...)
			before := shown(d)
			want(t, what, Write(d, s), api.ErrArg)
			same(t, what+": the disk", shown(d), before)
			want(t, "Fuse", d.Fuse(0), api.OK)
			want(t, what, Write(d, s), api.ErrArg)
			d.Remove("log") // the power fails
			want(t, what+", down", Write(d, s), api.ErrArg)
		}
	}
	d := of(t, files...)
	before := shown(d)
	long = sized(api.MaxCkpt + 1)
	want(t, "too long", Write(d, long), api.ErrLong)
	same(t, "the disk", shown(d), before)
	d.Fuse(0)
	d.Remove("log")
	want(t, "too long, down", Write(d, long), api.ErrLong)
	want(t, "down", Write(d, small(3, 2)), api.ErrDown)
}

// The longest one on the greatest disk, and on one that is a byte smaller.
func TestP11_4Longest(t *testing.T) {
	s := sized(api.MaxCkpt)
	d, _ := disk.New(api.MaxDisk)
	want(t, "Write", Write(d, s), api.OK)
	wantNewest(t, "the longest", d, 0, true, s)
	before := names(d)
	want(t, "a second one", Write(d, s), api.ErrFull)
	same(t, "the files", names(d), before)
	d, _ = disk.New(api.MaxDisk - 1)
	want(t, "Write", Write(d, s), api.ErrFull)
	same(t, "the files", names(d), "")
}

// state: what a Write ends in: what the disk keeps then (the bytes of the Snap as +; with a ? behind, if they are not synced), and its answer.
func state(e api.Errno, d *disk.Disk, s api.Snap) string {
	var l []string
	for _, f := range d.State().Files {
		text := string(f.Data)
		if text == string(plainEncode(s)) {
			text = "+"
		}
		text = f.Name + "=" + text
		if f.Synced < len(f.Data) {
			text += "?"
		}
		l = append(l, text)
	}
	l = append(l, fmt.Sprint("error ", int(e)))
	if d.Down() {
		l = append(l, "down")
	}
	return strings.Join(l, " ")
}

// The power fails at each call of a Write: what is left shows that the calls are those of the promise, in their order, and no others.
func TestP11_4EachCall(t *testing.T) {
	s := small(3, 9)
	for _, x := range []struct {
		what  string
		files []api.File
		calls []string
	}{
		{"an empty disk", nil, []string{
			"error 34 down", "ckpt.tmp= error 34 down", "ckpt.tmp=+? error 34 down", "ckpt.tmp=+ error 34 down", "ckpt-000003=+ error 0", "ckpt-000003=+ error 0"}},
		{"a draft ahead", []api.File{file1("ckpt.tmp", "left")}, []string{
			"ckpt.tmp=left error 34 down", "error 34 down", "ckpt.tmp= error 34 down", "ckpt.tmp=+? error 34 down", "ckpt.tmp=+ error 34 down", "ckpt-000003=+ error 0", "ckpt-000003=+ error 0"}},
		{"an older one of the same name", []api.File{file1("ckpt-000003", "old"), file1("log", "mine")}, []string{
			"ckpt-000003=old log=mine error 34 down", "ckpt-000003=old ckpt.tmp= log=mine error 34 down", "ckpt-000003=old ckpt.tmp=+? log=mine error 34 down", "ckpt-000003=old ckpt.tmp=+ log=mine error 34 down", "ckpt-000003=+ log=mine error 0"}},
		{"both, and a newer one", []api.File{file1("ckpt-000003", "old"), file1("ckpt-000004", "new"), file1("ckpt.tmp", "")}, []string{
			"ckpt-000003=old ckpt-000004=new ckpt.tmp= error 34 down", "ckpt-000003=old ckpt-000004=new error 34 down", "ckpt-000003=old ckpt-000004=new ckpt.tmp= error 34 down", "ckpt-000003=old ckpt-000004=new ckpt.tmp=+? error 34 down",
			"ckpt-000003=old ckpt-000004=new ckpt.tmp=+ error 34 down", "ckpt-000003=+ ckpt-000004=new error 0"}},
	} {
		for fuse, wanted := range x.calls {
			d := of(t, x.files...)
			want(t, "Fuse", d.Fuse(fuse), api.OK)
			e := Write(d, s)
			same(t, fmt.Sprintf("%s, a fuse of %d", x.what, fuse), state(e, d, s), wanted)
			if e == api.ErrDown {
				left := shown(d)
				want(t, "a Write while it is down", Write(d, s), api.ErrDown)
				same(t, "the disk", shown(d), left)
			}
		}
		d := of(t, x.files...)
		same(t, x.what, state(Write(d, s), d, s), x.calls[len(x.calls)-1])
		same(t, "the fuse", d.State().Fuse, -1)
	}
}

// crowd: so many other files.
func crowd(n int) (l []api.File) {
	for i := range n {
		l = append(l, file1(fmt.Sprintf("z%02d", i), ""))
	}
	return l
}

// The errors that the disk answers to Create and Append, and what is left behind them.
func TestP11_4ManyFiles(t *testing.T) {
	s := small(3, 9)
	for _, x := range []struct {
		what  string
		files []api.File
		e     api.Errno
		has   string
	}{
		{"64 others", crowd(64), api.ErrMany, ""},
		{"64 with an older one", append(crowd(63), file1("ckpt-000003", "old")), api.ErrMany, "ckpt-000003=old"},
		{"64 with a draft", append(crowd(63), file1("ckpt.tmp", "left")), api.OK, "ckpt-000003=+"},
		{"64 with both", append(crowd(62), file1("ckpt.tmp", "left"), file1("ckpt-000003", "old")), api.OK, "ckpt-000003=+"},
		{"63 others", crowd(63), api.OK, "ckpt-000003=+"},
	} {
		d := of(t, x.files...)
		before := shown(d)
		e := Write(d, s)
		want(t, x.what, e, x.e)
		got, _, _ := strings.Cut(state(e, d, s), "z00")
		same(t, x.what, strings.TrimSpace(got), x.has)
		if e != api.OK {
			same(t, x.what+": the disk", shown(d), before)
		}
	}
}

// tight: a disk of these files with so many bytes free.
func tight(t *testing.T, free int, files ...api.File) *disk.Disk {
	t.Helper()
	state := of(t, files...).State()
	state.Capacity = free
	for _, f := range files {
		state.Capacity += len(f.Data)
	}
	d, e := disk.From(state)
	want(t, "From", e, api.OK)
	return d
}

func TestP11_4NoRoom(t *testing.T) {
	s := small(3, 9)
	n := len(plainEncode(s))
	old, left, other := file1("ckpt-000003", "old"), file1("ckpt.tmp", "left"), file1("log", "mine")
	for _, x := range []struct {
		what   string
		free   int
		files  []api.File
		wanted string
	}{
		{"just enough", n, nil, "ckpt-000003=+ error 0"},
		{"one too few", n - 1, nil, "error 30"},
		{"none", 0, nil, "error 30"},
		{"just enough beside others", n, []api.File{old, other}, "ckpt-000003=+ log=mine error 0"},
		{"one too few beside others", n - 1, []api.File{old, other}, "ckpt-000003=old log=mine error 30"}, // though the older one's bytes would be free then
		{"a draft's bytes are free again", n - 4, []api.File{left}, "ckpt-000003=+ error 0"},
		{"one too few with the draft's", n - 5, []api.File{left}, "error 30"},
		{"one too few with the draft's, beside others", n - 5, []api.File{left, old, other}, "ckpt-000003=old log=mine error 30"},
	} {
		d := tight(t, x.free, x.files...)
		same(t, x.what, state(Write(d, s), d, s), x.wanted)
		wantList(t, x.what, copyOf(t, d), func() []int {
			if strings.Contains(x.wanted, "ckpt") {
				return []int{3}
			}
			return nil
		}()...)
	}
	// The draft is removed behind ErrFull; of that Remove the answer does not count, though the power fails in it.
	for fuse, wanted := range []string{"error 34 down", "ckpt.tmp= error 30 down", "error 30", "error 30"} {
		d := tight(t, n-1)
		want(t, "Fuse", d.Fuse(fuse), api.OK)
		same(t, fmt.Sprint("no room and a fuse of ", fuse), state(Write(d, s), d, s), wanted)
	}
	for fuse, wanted := range []string{"ckpt.tmp=left error 34 down", "error 34 down", "ckpt.tmp= error 30 down", "error 30", "error 30"} {
		d := tight(t, n-5, left)
		want(t, "Fuse", d.Fuse(fuse), api.OK)
		same(t, fmt.Sprint("no room, a draft and a fuse of ", fuse), state(Write(d, s), d, s), wanted)
	}
}

func TestP11_5List(t *testing.T) {
	wantList(t, "an empty disk", of(t))
	wantList(t, "others", of(t, file1("log", "x"), file1("ckpt.tmp", "x")))
	wantList(t, "spoilt ones too", of(t, file1("ckpt-000000", ""), file1("ckpt-000005", "junk"), snapFile(10, 1), snapFile(999, 1), file1("ckpt-001000", "x"), file1("ckpt-001001", "x")), 0, 5, 10, 999, 1000)
	var files []api.File
	var all []int
	for events := range 64 {
		files = append(files, file1(fmt.Sprintf("ckpt-%06d", 1000-events), ""))
		all = append(all, 937+events)
	}
	wantList(t, "64 of them", of(t, files...), all...)
}

// downed: the power of a disk has failed.
func downed(t *testing.T, d *disk.Disk) *disk.Disk {
	t.Helper()
	s := d.State()
	s.Down, s.Fuse = true, -1
	d, e := disk.From(s)
	want(t, "From", e, api.OK)
	return d
}

func TestP11_5To11_7Down(t *testing.T) {
	d := downed(t, of(t, snapFile(1, 1), snapFile(2, 1), file1("ckpt.tmp", "x")))
	before := shown(d)
	if l, e := List(d); l != nil || e != api.ErrDown {
		t.Errorf("List: %v, error %d", l, int(e))
	}
	for _, most := range []int{least, -1, 0, 1, 5, most} {
		if s, is, e := Newest(d, most); is || e != api.ErrDown || !reflect.ValueOf(s).IsZero() {
			t.Errorf("Newest(%d): %+v, %v, error %d", most, s, is, int(e))
		}
	}
	for _, keep := range []int{0, 1, 5, most} {
		if n, e := Trim(d, keep); n != 0 || e != api.ErrDown {
			t.Errorf("Trim(%d): %d, error %d", keep, n, int(e))
		}
	}
	for _, keep := range []int{-1, least} {
		if n, e := Trim(d, keep); n != 0 || e != api.ErrArg {
			t.Errorf("Trim(%d): %d, error %d", keep, n, int(e))
		}
	}
	// The errors of Size and Read: Newest asks only for files that List has told, so they are looked for where it asks.
	if s, whole, e := load(d, 1); whole || e != api.ErrDown || !reflect.ValueOf(s).IsZero() {
		t.Errorf("load: %v, error %d", whole, int(e))
	}
	if s, whole, e := load(of(t, snapFile(1, 1)), 2); whole || e != api.ErrNone || !reflect.ValueOf(s).IsZero() {
		t.Errorf("load of no file: %v, error %d", whole, int(e))
	}
	same(t, "the disk", shown(d), before)
}

// A fuse is nothing to the calls that only look.
func TestP11_6LookingBurnsNoFuse(t *testing.T) {
	d := of(t, snapFile(1, 1), file1("ckpt-000002", "junk"))
	want(t, "Fuse", d.Fuse(0), api.OK)
	wantList(t, "with a fuse", d, 1, 2)
	wantNewest(t, "with a fuse", d, most, true, small(1, 1))
	if n, e := Trim(d, 2); n != 0 || e != api.OK || d.Down() {
		t.Errorf("Trim of nothing: %d, error %d", n, int(e))
	}
}

func TestP11_6Newest(t *testing.T) {
	none := api.Snap{}
	good := string(plainEncode(small(5, 1)))
	whole := []api.File{snapFile(0, 1), snapFile(5, 1), snapFile(9, 1), snapFile(1000, 1)}
	d := of(t, whole...)
	for most, wanted := range map[int]int{least: -1, -1000: -1, -1: -1, 0: 0, 1: 0, 4: 0, 5: 5, 8: 5, 9: 9, 10: 9, 999: 9, 1000: 1000, 1001: 1000, 1000000: 1000, most - 1: 1000, most: 1000} {
		if wanted < 0 {
			wantNewest(t, "whole ones", d, most, false, none)
		} else {
			wantNewest(t, "whole ones", d, most, true, small(wanted, 1))
		}
	}
	for what, spoilt := range map[string]string{
		"empty": "", "junk": "junk", "cut": good[:len(good)-1], "its head": good[:16], "one more byte": good + "\x00", "twice": good + good, "a bit turned": string(turned([]byte(good), 200, 1)),
		"of 4 events": string(plainEncode(small(4, 1))), "of 6 events": string(plainEncode(small(6, 1))), "of -5 events": string(plainEncode(small(-5, 1))), "of none": string(plainEncode(none)), "of 5 + 2^32 events": string(plainEncode(small(5+1<<32, 1))), "of 1000005": string(plainEncode(small(1000005, 1))),
	} {
		d := of(t, snapFile(0, 1), file1("ckpt-000005", spoilt), snapFile(9, 1))
		wantNewest(t, what, d, 9, true, small(9, 1))
		wantNewest(t, what, d, 8, true, small(0, 1))
		wantNewest(t, what, d, 5, true, small(0, 1))
		wantNewest(t, what, of(t, file1("ckpt-000005", spoilt)), most, false, none)
		wantNewest(t, what, of(t, file1("ckpt-000005", spoilt), file1("ckpt-000006", spoilt), file1("ckpt-000007", spoilt)), 5, false, none)
		wantNewest(t, what, of(t, file1("ckpt-000002", ""), file1("ckpt-000005", spoilt), snapFile(1, 1)), most, true, small(1, 1))
	}
	wantNewest(t, "an empty disk", of(t), most, false, none)
	wantNewest(t, "a draft alone", of(t, file1("ckpt.tmp", good)), most, false, none)
	// Bytes that are not synced are read too.
	d = of(t, snapFile(1, 1))
	d.Create("ckpt-000005")
	d.Append("ckpt-000005", []byte(good))
	wantNewest(t, "not synced", d, most, true, small(5, 1))
	// A Snap that can't be is none of its business.
	odd := full(2)
	odd.Base.Events = 77
	wantNewest(t, "odd", of(t, file1("ckpt-000077", string(plainEncode(odd)))), most, true, odd)
}

// trims: Trim answers so, and leaves these files.
func trims(t *testing.T, what string, d *disk.Disk, keep, n int, e api.Errno, left string) {
	t.Helper()
	if got, why := Trim(d, keep); got != n || why != e {
		t.Errorf("%s: Trim(%d): %d, error %d; want %d, %d", what, keep, got, int(why), n, int(e))
	}
	same(t, fmt.Sprintf("%s, %d kept: the files", what, keep), names(d), left)
}

func TestP11_7Trim(t *testing.T) {
	files := []api.File{snapFile(1, 1), file1("ckpt-000005", "junk"), snapFile(9, 1), file1("ckpt-001000", ""), file1("ckpt-001001", "x"), file1("log", "x")}
	draft := file1("ckpt.tmp", "left")
	for keep, wanted := range map[int]string{
		0: "", 1: "ckpt-001000 ", 2: "ckpt-000009 ckpt-001000 ", 3: "ckpt-000005 ckpt-000009 ckpt-001000 ",
		4: "ckpt-000001 ckpt-000005 ckpt-000009 ckpt-001000 ", 5: "ckpt-000001 ckpt-000005 ckpt-000009 ckpt-001000 ", 1000: "ckpt-000001 ckpt-000005 ckpt-000009 ckpt-001000 ",
		most - 1: "ckpt-000001 ckpt-000005 ckpt-000009 ckpt-001000 ", most: "ckpt-000001 ckpt-000005 ckpt-000009 ckpt-001000 ",
	} {
		gone := 4 - strings.Count(wanted, " ")
		d := of(t, files...)
		trims(t, "without a draft", d, keep, gone, api.OK, wanted+"ckpt-001001 log")
		trims(t, "once more", d, keep, 0, api.OK, wanted+"ckpt-001001 log")
		trims(t, "with a draft", of(t, append(slices.Clone(files), draft)...), keep, gone+1, api.OK, wanted+"ckpt-001001 log")
	}
	for _, keep := range []int{-1, -2, -1000, least, least + 1} {
		d := of(t, append(slices.Clone(files), draft)...)
		before := shown(d)
		trims(t, "below 0", d, keep, 0, api.ErrArg, names(d))
		same(t, "the disk", shown(d), before)
	}
	for keep := range 3 {
		trims(t, "an empty disk", of(t), keep, 0, api.OK, "")
		trims(t, "a draft alone", of(t, draft), keep, 1, api.OK, "")
		trims(t, "others alone", of(t, file1("log", "x"), file1("zebra", "")), keep, 0, api.OK, "log zebra")
	}
	var many []api.File
	for events := range 64 {
		many = append(many, snapFile(events, 1))
	}
	trims(t, "64 of them", of(t, many...), 2, 62, api.OK, "ckpt-000062 ckpt-000063")
}

// The power fails at each Remove: by rising name, and what was removed stays so.
func TestP11_7RemoveFails(t *testing.T) {
	files := []api.File{file1("ckpt.tmp", "left"), snapFile(1, 1), file1("ckpt-000005", "junk"), snapFile(9, 1), file1("log", "x")}
	for fuse, left := range []string{
		"ckpt-000001 ckpt-000005 ckpt-000009 ckpt.tmp log", "ckpt-000005 ckpt-000009 ckpt.tmp log", "ckpt-000009 ckpt.tmp log",
	} {
		d := of(t, files...)
		want(t, "Fuse", d.Fuse(fuse), api.OK)
		trims(t, fmt.Sprint("a fuse of ", fuse), d, 1, 0, api.ErrDown, left)
		trims(t, "down", d, 1, 0, api.ErrDown, left)
		d.Crash(nil)
		trims(t, "behind the crash", d, 1, 3-fuse, api.OK, "ckpt-000009 log")
	}
	d := of(t, files...)
	want(t, "Fuse", d.Fuse(3), api.OK)
	trims(t, "a fuse that holds", d, 1, 3, api.OK, "ckpt-000009 log")
	same(t, "the fuse", d.State().Fuse, 0)
}
