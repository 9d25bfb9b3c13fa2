package store

import (
	"slices"
	"testing"

	"daybook/api"
)

func TestExample1Frames(t *testing.T) {
	b, e := Frame([]byte{97, 98, 99})
	want(t, "Frame", e, api.OK)
	same(t, "Frame", string(b), "\x03\x00\xfc\xff\xc2\x41\x24\x35\x61\x62\x63")
	b, e = Frame(nil)
	want(t, "Frame", e, api.OK)
	same(t, "Frame", string(b), "\x00\x00\xff\xff\x00\x00\x00\x00")
	b, e = Frame(make([]byte, 2049))
	want(t, "Frame", e, api.ErrLong)
	same(t, "Frame", len(b), 0)
}

func TestExample2Scan(t *testing.T) {
	abc, _ := Frame([]byte("abc"))
	none, _ := Frame(nil)
	scanned(t, slices.Concat(abc, none, []byte{5, 0}), []string{"abc", ""}, 19)
	scanned(t, []byte{5}, nil, 0)
	scanned(t, []byte{0, 0, 0xff, 0xfe, 0, 0, 0, 0}, nil, 0)
}

func TestExample3And6FullDisk(t *testing.T) {
	d, l := begun(t, 100, 64)
	if _, e := Open(d, 63); e != api.ErrArg {
		t.Errorf("Open with 63: error %d", int(e))
	}
	same(t, "the files", names(d), "log log-000001")
	same(t, "the index", data(d, "log"), "1\nsum 6751fc53\n")
	same(t, "segment 1", data(d, "log-000001"), "")
	want(t, "Append of 40", l.Append(make([]byte, 40)), api.OK)
	same(t, "segment 1", len(data(d, "log-000001")), 48)
	want(t, "Append of 30", l.Append(make([]byte, 30)), api.ErrFull)
	want(t, "Append of 29", l.Append(make([]byte, 29)), api.OK)
	same(t, "segment 1", len(data(d, "log-000001")), 85)
	before := shown(d)
	want(t, "the next Append", l.Append(nil), api.ErrFull)
	same(t, "the disk", shown(d), before)
	same(t, "Len", l.Len(), 2)

	for _, i := range []int{-1, l.Len()} {
		b, e := l.Read(i)
		want(t, "Read", e, api.ErrNoRecord)
		same(t, "Read", len(b), 0)
	}
	if s := l.Segments(); !slices.Equal(s, []api.Segment{{No: 1, First: 0, Count: 2, Bytes: 85, Last: true}}) {
		t.Errorf("Segments %v", s)
	}
}

func TestExample4PowerFails(t *testing.T) {
	for _, keep := range []int{12, 1000} {
		d, l := begun(t, 10000, 4096)
		want(t, "Append", l.Append([]byte("first")), api.OK)
		want(t, "Fuse", d.Fuse(1), api.OK)
		want(t, "Append", l.Append([]byte("second")), api.ErrDown)
		d.Crash([]int{keep})
		l = opened(t, d, 4096)
		if keep == 12 {
			same(t, "Len", l.Len(), 1)
			same(t, "segment 1", len(data(d, "log-000001")), 13+12)
			want(t, "Append", l.Append([]byte("third")), api.OK)
			same(t, "Segments", len(l.Segments()), 2)
			same(t, "segment 2", data(d, "log-000002"), string(framed("third")))
			continue
		}
		same(t, "Len", l.Len(), 2)
		b, e := l.Read(1)
		want(t, "Read", e, api.OK)
		same(t, "Read", string(b), "second")
	}
}

func TestExample5NoLogs(t *testing.T) {
	two := logFiles([]string{"a"}, []string{"b"})
	_, e := Open(of(t, append(two, file1("log-000007", ""))...), 64)
	want(t, "log-000007", e, api.ErrLog)
	_, e = Open(of(t, file1("log", sealed("01\n")), file1("log-000001", "")), 64)
	want(t, "a line 01", e, api.ErrLog)
	for end, answer := range map[string]api.Errno{"\x05\x00\xfb": api.ErrLog, "\x05\x00\xfa\xff\x00": api.OK} {
		files := logFiles([]string{"a"}, []string{"b"})
		files[2].Data = slices.Concat(files[2].Data, []byte(end))
		l, e := Open(of(t, files...), 64)
		want(t, "an end", e, answer)
		if e == api.OK {
			same(t, "the records", tells(l), tells(opened(t, of(t, logFiles([]string{"a"}, []string{"b"})...), 64)))
		}
	}
}
