package store

import (
	"bytes"
	"fmt"
	"strings"
	"testing"

	"daybook/api"
	"daybook/disk"
)

func TestP4_3Sizes(t *testing.T) {
	for _, size := range []int{64, 65, 4096, 65535, 65536} {
		begun(t, 1000, size)
	}
	down := of(t)
	want(t, "Fuse", down.Fuse(0), api.OK)
	want(t, "Create", down.Create("a"), api.ErrDown)
	for _, size := range []int{63, 65537, 0, -1, -64, most, least} {
		for _, d := range []*disk.Disk{of(t), of(t, logFiles([]string{"a"})...), of(t, file1("log", "none")), down} {
			before := shown(d)
			if l, e := Open(d, size); l != nil || e != api.ErrArg {
				t.Errorf("Open(%d): error %d", size, int(e))
			}
			same(t, "the disk", shown(d), before)
		}
	}
	if l, e := Open(down, 64); l != nil || e != api.ErrDown {
		t.Errorf("Open of a disk that is down: error %d", int(e))
	}
}

// A log that is there is opened without a changing call: even with the fuse at 0.
func TestP4_3OpenChangesNothing(t *testing.T) {
	torn := logFiles([]string{"a"}, []string{"b"})
	torn[2].Data = append(torn[2].Data, 7)
	torn[2].Synced = 0
	for _, files := range [][]api.File{logFiles(nil), logFiles([]string{"a"}, nil), torn, append(logFiles(nil), file1("log-000002", ""), file1("log.tmp", "half"), file1("mine", "x"))} {
		d := of(t, files...)
		want(t, "Fuse", d.Fuse(0), api.OK)
		before := shown(d)
		opened(t, d, 64)
		same(t, "the disk", shown(d), before)
	}
}

// Where there is no log: which calls are made, by what the disk holds and by the fuse, which counts them.
func TestP4_3Begin(t *testing.T) {
	starts := map[int][]api.File{
		5: nil, // two Create, Append, Sync, Rename
		4: {file1("log-000001", "")},
		6: {file1("log.tmp", "half")},
	}
	for calls, files := range starts {
		d := of(t, files...)
		want(t, "Fuse", d.Fuse(100), api.OK)
		l := opened(t, d, 64)
		same(t, "calls", 100-d.State().Fuse, calls)
		same(t, "files", names(d), "log log-000001")
		same(t, "the index", data(d, "log"), "1\nsum 6751fc53\n")
		same(t, "synced", d.State().Files[0].Synced, 15)
		same(t, "the log", tells(l), "[{No:1 First:0 Count:0 Bytes:0 Last:true}] []")
	}
}

// No room: the first call that is refused answers, and what was done ahead of it stays.
func TestP4_3BeginWithoutRoom(t *testing.T) {
	for capacity := range 17 {
		d, _ := disk.New(capacity)
		l, e := Open(d, 64)
		if capacity >= 15 {
			want(t, "Open", e, api.OK)
			continue
		}
		if l != nil || e != api.ErrFull {
			t.Errorf("Open on %d bytes: error %d", capacity, int(e))
		}
		same(t, "files", names(d), "log-000001 log.tmp")
		l, e = Open(d, 64)
		if l != nil || e != api.ErrFull {
			t.Errorf("Open again on %d bytes: error %d", capacity, int(e))
		}
		same(t, "files", names(d), "log-000001 log.tmp")
	}
	for there, left := range map[int]string{api.MaxFiles: "", api.MaxFiles - 1: "log-000001"} {
		var files []api.File
		for i := range there {
			files = append(files, file1(fmt.Sprintf("f%02d", i), ""))
		}
		d := of(t, files...)
		l, e := Open(d, 64)
		if l != nil || e != api.ErrMany {
			t.Errorf("Open on a disk with %d files: error %d", there, int(e))
		}
		same(t, "files", strings.TrimSpace(names(d)[len(names(of(t, files...))):]), left)
	}
}

func TestP4_4Append(t *testing.T) {
	d, l := begun(t, 100000, api.MaxSegment)
	p, e := plainOpen(of(t), api.MaxSegment)
	want(t, "the model", e, api.OK)
	for _, n := range []int{0, 1, 0, 255, 256, 257, 2047, api.MaxRecord} {
		rec := bytes.Repeat([]byte{byte(n)}, n)
		want(t, "Append", l.Append(rec), api.OK)
		want(t, "Append to the model", p.Append(rec), api.OK)
		same(t, "the log", tells(l), tells(p))
	}
	before := shown(d)
	for _, n := range []int{api.MaxRecord + 1, 65535, 65536, 100000} {
		want(t, "Append of too much", l.Append(make([]byte, n)), api.ErrLong)
	}
	same(t, "the disk", shown(d), before)
	same(t, "the log", tells(l), tells(p))
	for _, f := range d.State().Files {
		same(t, "synced of "+f.Name, f.Synced, len(f.Data))
	}
}

// A segment is full at its size, not ahead of it.
func TestP4_4FullSegments(t *testing.T) {
	for _, size := range []int{api.MinSegment, 65, 100, 2048, api.MaxSegment} {
		for _, short := range []int{0, 1, 8} {
			d, l := begun(t, api.MaxDisk, size)
			left := size - short
			for left > 0 {
				n := min(left-8, api.MaxRecord)
				if left-8-n > 0 && left-8-n < 8 { // the rest must have room for a head
					n -= 8
				}
				want(t, "Append", l.Append(make([]byte, n)), api.OK)
				left -= 8 + n
			}
			same(t, "bytes", l.Segments()[0].Bytes, size-short)
			same(t, "segments", len(l.Segments()), 1)
			want(t, "Fuse", d.Fuse(100), api.OK)
			want(t, "Append", l.Append(nil), api.OK)
			if short > 0 {
				same(t, "segments", len(l.Segments()), 1)
				same(t, "calls", 100-d.State().Fuse, 2)
			} else {
				same(t, "segments", len(l.Segments()), 2)
				same(t, "calls", 100-d.State().Fuse, 7)
				same(t, "names", names(d), "log log-000001 log-000002")
			}
		}
	}
}

// What stands in the way of a new segment is removed: it is nobody's.
func TestP4_4StaleFilesAreRemoved(t *testing.T) {
	files := append(logFiles([]string{text(60)}), file1("log-000002", ""), file1("log.tmp", "half an index"))
	d := of(t, files...)
	l := opened(t, d, 64)
	want(t, "Fuse", d.Fuse(100), api.OK)
	want(t, "Append", l.Append([]byte("b")), api.OK)
	same(t, "calls", 100-d.State().Fuse, 9)
	same(t, "the disk", shown(from(t, api.Disk{Capacity: api.MaxDisk, Fuse: 91, Files: logFiles([]string{text(60)}, []string{"b"})})), shown(d))

	// even with bytes, which somebody else has put there since Open
	d = of(t, logFiles([]string{text(60)})...)
	l = opened(t, d, 64)
	want(t, "Create", d.Create("log-000002"), api.OK)
	want(t, "Append", d.Append("log-000002", []byte("somebody's")), api.OK)
	want(t, "Append", l.Append([]byte("b")), api.OK)
	same(t, "segment 2", data(d, "log-000002"), string(framed("b")))
}

func TestP4_4ATornEndBeginsASegment(t *testing.T) {
	torn := framed(text(20))
	for cut := range len(torn) {
		files := logFiles([]string{"a"}, []string{"b"})
		files[2].Data = append(files[2].Data, torn[:cut]...)
		files[2].Synced = len(files[2].Data)
		d := of(t, files...)
		l := opened(t, d, api.MaxSegment)
		want(t, "Append", l.Append([]byte("c")), api.OK)
		want(t, "Append", l.Append([]byte("d")), api.OK)
		if cut == 0 {
			same(t, "segments", fmt.Sprint(l.Segments()), "[{1 0 1 9 false} {2 1 3 27 true}]")
			continue
		}
		same(t, "segments", fmt.Sprint(l.Segments()), "[{1 0 1 9 false} {2 1 1 9 false} {3 2 2 18 true}]")
		same(t, "segment 2", data(d, "log-000002"), string(framed("b"))+string(torn[:cut]))
		same(t, "segment 3", data(d, "log-000003"), string(framedAll([]string{"c", "d"})))
		same(t, "the records", tells(opened(t, d, 64)), tells(l))
	}
}

// A torn end of a segment that is not the last one begins nothing.
func TestP4_4ATornEndAheadOfTheLast(t *testing.T) {
	files := logFiles([]string{"a"}, []string{"b"})
	files[1].Data = append(files[1].Data, 1, 2)
	l := opened(t, of(t, files...), 64)
	want(t, "Append", l.Append([]byte("c")), api.OK)
	same(t, "segments", len(l.Segments()), 2)
}

func TestP4_4NoNumbersLeft(t *testing.T) {
	for _, n := range []int{api.MaxSegments, api.MaxSegments - 1} {
		for _, torn := range []bool{false, true} {
			d := of(t, file1(segmentFile(n), text(100)))
			l := &Log{disk: d, size: 64, up: true, torn: torn, segments: make([]api.Segment, n)}
			l.segments[n-1] = api.Segment{No: n, Bytes: 64, Last: true}
			if torn {
				l.segments[n-1].Bytes = 0
			}
			before := shown(d)
			e := l.Append([]byte("a"))
			if n < api.MaxSegments { // the number is free: segment 999999 is begun (and only the index has no room)
				want(t, "Append", e, api.ErrFull)
				continue
			}
			want(t, "Append", e, api.ErrMany)
			same(t, "the disk", shown(d), before)
			same(t, "segments", len(l.segments), n)
			want(t, "Append of too much", l.Append(make([]byte, 2049)), api.ErrLong)
			want(t, "Append again", l.Append([]byte("a")), api.ErrMany)
		}
	}
}

// An end of the numbers does not matter to a segment that takes more.
func TestP4_4TheLastNumberTakesMore(t *testing.T) {
	d := of(t, file1("log-999999", ""))
	l := &Log{disk: d, size: 64, up: true, segments: make([]api.Segment, api.MaxSegments)}
	l.segments[api.MaxSegments-1] = api.Segment{No: api.MaxSegments, Last: true}
	want(t, "Append", l.Append([]byte("a")), api.OK)
	same(t, "the file", data(d, "log-999999"), string(framed("a")))
}

// A disk without room, at each byte of it: a refused Append leaves log and disk as they were, but for a segment that was begun.
func TestP4_4FullDisk(t *testing.T) {
	for room := range 60 {
		s := of(t, logFiles([]string{text(60)})...).State()
		s.Capacity = 68 + 15 + room
		d := from(t, s)
		l := opened(t, d, 64)
		before, was := shown(d), tells(l)
		e := l.Append(make([]byte, 10))
		index := len(indexed([][]string{{text(60)}, nil})) // beside the old one
		switch {
		case room < index:
			want(t, "Append", e, api.ErrFull)
			same(t, "the disk", shown(d), before)
			same(t, "the log", tells(l), was)
		case room-index+15 < 18:
			want(t, "Append", e, api.ErrFull)
			same(t, "the files", names(d), "log log-000001 log-000002")
			same(t, "the segments", fmt.Sprint(l.Segments()), "[{1 0 1 68 false} {2 1 0 0 true}]")
			want(t, "Append of less", l.Append(make([]byte, 0)), api.OK)
		default:
			want(t, "Append", e, api.OK)
		}
		same(t, "opened anew", tells(opened(t, d, 64)), tells(l))
	}
}

// No more files: at the segment's, then at the draft's.
func TestP4_4ManyFiles(t *testing.T) {
	for _, others := range []int{api.MaxFiles - 2, api.MaxFiles - 3, api.MaxFiles - 4} {
		for _, draft := range []bool{false, true} {
			files := logFiles([]string{text(60)})
			for i := range others {
				files = append(files, file1(fmt.Sprintf("f%02d", i), ""))
			}
			if draft {
				files[2].Name = "log.tmp"
			}
			d := of(t, files...)
			l := opened(t, d, 64)
			e := l.Append([]byte("a"))
			if others == api.MaxFiles-4 || draft && others == api.MaxFiles-3 {
				want(t, "Append", e, api.OK)
				same(t, "segments", len(l.Segments()), 2)
				continue
			}
			want(t, "Append", e, api.ErrMany)
			same(t, "segments", len(l.Segments()), 1)
			if list := names(d); strings.Contains(list, "log.tmp") || strings.Contains(list, "log-000002") {
				t.Errorf("left: %s", list)
			}
		}
	}
}

// Both Removes follow a refusal, though a draft was there ahead of it.
func TestP4_4ADraftIsRemovedBehindARefusal(t *testing.T) {
	files := append(logFiles([]string{text(60)}), file1("log.tmp", "old"))
	for i := range api.MaxFiles - 3 {
		files = append(files, file1(fmt.Sprintf("f%02d", i), ""))
	}
	d := of(t, files...)
	l := opened(t, d, 64)
	want(t, "Fuse", d.Fuse(100), api.OK)
	want(t, "Append", l.Append([]byte("a")), api.ErrMany) // no file for the segment
	same(t, "calls", 100-d.State().Fuse, 1)
	same(t, "the draft", strings.Contains(names(d), "log.tmp"), false)
}

// The log has met ErrDown if any call did, though its answer does not count.
func TestP4_4DownInTheCleanUp(t *testing.T) {
	for fuse := range 5 {
		s := of(t, logFiles([]string{text(60)})...).State()
		s.Capacity = 68 + 15 + 10
		d := from(t, s)
		l := opened(t, d, 64)
		want(t, "Fuse", d.Fuse(fuse), api.OK)
		e := l.Append([]byte("a"))
		switch fuse {
		case 0, 1: // at one of the two Creates
			want(t, "Append", e, api.ErrDown)
		case 2, 3: // at one of the two Removes
			want(t, "Append", e, api.ErrFull)
		case 4: // the power is there: the next one meets it
			want(t, "Append", e, api.ErrFull)
			want(t, "Append again", l.Append([]byte("a")), api.ErrDown)
			continue
		}
		same(t, "files", names(d), []string{"log log-000001", "log log-000001 log-000002", "log log-000001 log-000002 log.tmp", "log log-000001 log-000002"}[fuse])
		d.Crash(nil)
		want(t, "Append behind it", l.Append([]byte("a")), api.ErrDown)
		want(t, "Append of too much behind it", l.Append(make([]byte, 2049)), api.ErrDown)
		_, e = l.Read(0)
		want(t, "Read behind it", e, api.ErrDown)
		same(t, "Len", l.Len(), 1)
		same(t, "opened anew", opened(t, d, 64).Len(), 1)
	}
}

// What a log has not met it does not answer: a refusal of its own makes no call.
func TestP4_4DownIsMetByCallsAlone(t *testing.T) {
	d, l := begun(t, 10000, 64)
	want(t, "Append", l.Append([]byte("a")), api.OK)
	want(t, "Fuse", d.Fuse(0), api.OK)
	want(t, "Create", d.Create("x"), api.ErrDown)
	want(t, "Append of too much", l.Append(make([]byte, 2049)), api.ErrLong)
	_, e := l.Read(1)
	want(t, "Read of no record", e, api.ErrNoRecord)
	d.Crash(nil)
	want(t, "Append", l.Append([]byte("b")), api.OK)
	b, e := l.Read(1)
	want(t, "Read", e, api.OK)
	same(t, "Read", string(b), "b")
}

func TestP4_5Told(t *testing.T) {
	_, l := begun(t, 10000, 64)
	same(t, "an empty log", tells(l), "[{No:1 First:0 Count:0 Bytes:0 Last:true}] []")
	for i := range 7 {
		same(t, "Len", l.Len(), i)
		want(t, "Append", l.Append(make([]byte, 30)), api.OK)
	}
	same(t, "Segments", fmt.Sprint(l.Segments()), "[{1 0 2 76 false} {2 2 2 76 false} {3 4 2 76 false} {4 6 1 38 true}]")
	s := l.Segments()
	s[0], s[3].Last = api.Segment{}, false
	_ = append(s, api.Segment{No: 9})
	same(t, "Segments", fmt.Sprint(l.Segments()), "[{1 0 2 76 false} {2 2 2 76 false} {3 4 2 76 false} {4 6 1 38 true}]")
	kept := l.Segments()
	want(t, "Append", l.Append(make([]byte, 30)), api.OK)
	same(t, "what was told", fmt.Sprint(kept), "[{1 0 2 76 false} {2 2 2 76 false} {3 4 2 76 false} {4 6 1 38 true}]")
}

// Also when the log is down; with a segment, if it was begun.
func TestP4_5ToldWhenDown(t *testing.T) {
	for fuse := range 7 {
		d := of(t, logFiles([]string{text(60)})...)
		l := opened(t, d, 64)
		want(t, "Fuse", d.Fuse(fuse), api.OK)
		want(t, "Append", l.Append([]byte("a")), api.ErrDown)
		same(t, "Len", l.Len(), 1)
		segments := "[{1 0 1 68 true}]"
		if fuse >= 5 {
			segments = "[{1 0 1 68 false} {2 1 0 0 true}]"
		}
		same(t, "Segments", fmt.Sprint(l.Segments()), segments)
		d.Crash([]int{most})
		same(t, "Len behind the crash", l.Len(), 1)
		same(t, "Segments behind the crash", fmt.Sprint(l.Segments()), segments)
	}
}

func TestP4_6Read(t *testing.T) {
	d, l := begun(t, api.MaxDisk, 64)
	var recs []string
	for _, n := range []int{0, 1, 40, 0, 0, 2048, 0, 63, 64, 255, 256} {
		recs = append(recs, string(anyBytes(source(), n)))
		want(t, "Append", l.Append([]byte(recs[len(recs)-1])), api.OK)
	}
	for _, x := range []*Log{l, opened(t, d, 4096)} {
		for i, rec := range recs {
			b, e := x.Read(i)
			want(t, "Read", e, api.OK)
			same(t, "Read", string(b), rec)
		}
		for _, i := range []int{-1, len(recs), len(recs) + 1, most, least} {
			b, e := x.Read(i)
			want(t, "Read", e, api.ErrNoRecord)
			same(t, "Read", len(b), 0)
		}
	}
}

func TestP4_6NewMemory(t *testing.T) {
	d, l := begun(t, 10000, 64)
	rec := []byte("record one")
	want(t, "Append", l.Append(rec[:6]), api.OK)
	clear(rec)
	want(t, "Append", l.Append([]byte("two")), api.OK)
	one, _ := l.Read(0)
	again, _ := l.Read(0)
	same(t, "Read", string(one), "record")
	_ = append(one, "more"...)
	clear(one)
	same(t, "another answer", string(again), "record")
	same(t, "the log", fmt.Sprint(all(l)), "[record two]")
	same(t, "the disk", data(d, "log-000001"), string(framedAll([]string{"record", "two"})))
}

// Somebody else has been at the files.
func TestP4_6SpoiltFiles(t *testing.T) {
	replace := func(d *disk.Disk, name, data string) {
		want(t, "Remove", d.Remove(name), api.OK)
		want(t, "Create", d.Create(name), api.OK)
		want(t, "Append", d.Append(name, []byte(data)), api.OK)
	}
	good := []string{"abc", "xyz", "abc"}
	frames := func(recs ...string) string { return string(framedAll(recs)) }
	for what, x := range map[string]struct {
		spoil func(d *disk.Disk)
		want  string
	}{
		"nothing":                    {func(d *disk.Disk) {}, "[abc xyz abc]"},
		"removed":                    {func(d *disk.Disk) { d.Remove("log-000001") }, "[error 40 error 40 error 40]"},
		"renamed":                    {func(d *disk.Disk) { d.Rename("log-000001", "mine") }, "[error 40 error 40 error 40]"},
		"cut within the second":      {func(d *disk.Disk) { replace(d, "log-000001", frames(good...)[:21]) }, "[abc error 40 error 40]"},
		"cut behind the second":      {func(d *disk.Disk) { replace(d, "log-000001", frames("abc", "xyz")) }, "[abc xyz error 40]"},
		"longer":                     {func(d *disk.Disk) { d.Append("log-000001", []byte("more")) }, "[abc xyz abc]"},
		"empty":                      {func(d *disk.Disk) { replace(d, "log-000001", "") }, "[error 40 error 40 error 40]"},
		"one byte of the first":      {func(d *disk.Disk) { replace(d, "log-000001", "x"+frames(good...)[1:]) }, "[error 40 xyz abc]"},
		"one byte of the last":       {func(d *disk.Disk) { replace(d, "log-000001", frames(good...)[:32]+"x") }, "[abc xyz error 40]"},
		"another frame in the midst": {func(d *disk.Disk) { replace(d, "log-000001", frames("abc", "new", "abc")) }, "[abc error 40 abc]"},
		"another order":              {func(d *disk.Disk) { replace(d, "log-000001", frames("xyz", "abc", "abc")) }, "[error 40 error 40 abc]"},
		"moved by a byte":            {func(d *disk.Disk) { replace(d, "log-000001", "x"+frames(good...)) }, "[error 40 error 40 error 40]"},
		"the index alone":            {func(d *disk.Disk) { replace(d, "log", "none") }, "[abc xyz abc]"},
	} {
		d, l := begun(t, 10000, 64)
		for _, rec := range good {
			want(t, "Append", l.Append([]byte(rec)), api.OK)
		}
		x.spoil(d)
		same(t, what, fmt.Sprint(all(l)), x.want)
		same(t, what+", again", fmt.Sprint(all(l)), x.want)
		same(t, what+": Len", l.Len(), 3)
	}
}

// Two records of one length and one sum: only by its bytes is a frame told from the other.
func TestP4_6AnotherFrameOfTheSameSum(t *testing.T) {
	one := []byte("what was written")
	two := bytes.Clone(one)
	for i, b := range []byte{0x41, 0x06, 0x71, 0xdb, 0x01} { // the 33 bits that the sum does not see
		two[i+3] ^= b
	}
	a, _ := Frame(one)
	b, _ := Frame(two)
	if !bytes.Equal(a[:head], b[:head]) {
		t.Fatalf("the two have other sums: % x, % x", a[:head], b[:head])
	}
	d, l := begun(t, 10000, 64)
	want(t, "Append", l.Append(one), api.OK)
	want(t, "Remove", d.Remove("log-000001"), api.OK)
	want(t, "Create", d.Create("log-000001"), api.OK)
	want(t, "Append", d.Append("log-000001", b), api.OK)
	_, e := l.Read(0)
	want(t, "Read", e, api.ErrLog)
}

// How many bytes a segment has, no file is looked at for.
func TestP4_4NoFileIsLookedAtAgain(t *testing.T) {
	d, l := begun(t, 10000, 64)
	want(t, "Append", l.Append([]byte("a")), api.OK)
	want(t, "somebody's Append", d.Append("log-000001", make([]byte, 200)), api.OK)
	want(t, "Append", l.Append([]byte("b")), api.OK)
	same(t, "Segments", fmt.Sprint(l.Segments()), "[{1 0 2 18 true}]")
	same(t, "the records", fmt.Sprint(all(l)), "[a error 40]")
	want(t, "somebody's Remove", d.Remove("log-000001"), api.OK)
	want(t, "Append", l.Append([]byte("c")), api.ErrNone)
	same(t, "Len", l.Len(), 2)
}

func TestP4_10OpenedAnew(t *testing.T) {
	r := source()
	for _, size := range []int{64, 100, 1000, 65536} {
		d, l := begun(t, 4000, size)
		for range 40 {
			l.Append(anyBytes(r, r.IntN(200))) // some, in the end, for a full disk
			before := shown(d)
			for _, other := range []int{64, size, 65536} {
				k := opened(t, d, other)
				same(t, "opened anew", tells(k), tells(l))
			}
			same(t, "the disk", shown(d), before)
		}
		one, two := from(t, d.State()), from(t, d.State())
		k, m := opened(t, one, size), opened(t, two, size)
		rec := anyBytes(r, 5)
		same(t, "Append", k.Append(rec), m.Append(rec))
		same(t, "the disk", shown(one), shown(two))
	}
}

func TestP4_11Segments(t *testing.T) {
	r := source()
	for range 60 {
		size := api.MinSegment + r.IntN(300)
		_, l := begun(t, api.MaxDisk, size)
		for range r.IntN(60) {
			want(t, "Append", l.Append(anyBytes(r, r.IntN(120))), api.OK)
		}
		next := 0
		segments := l.Segments()
		for i, s := range segments {
			if s.No != i+1 || s.First != next || s.Last != (i == len(segments)-1) {
				t.Fatalf("segment %d: %+v, records up to %d", i, s, next)
			}
			next += s.Count
			if s.Last {
				continue
			}
			b, e := l.Read(next - 1)
			want(t, "Read", e, api.OK)
			if s.Bytes < size || s.Bytes-len(b)-head >= size {
				t.Fatalf("size %d: %+v, its last record of %d bytes", size, s, len(b))
			}
		}
		same(t, "the records of all segments", next, l.Len())
	}
}

// A Log that nobody opened answers as one that is down.
func TestEndsTheZeroLog(t *testing.T) {
	var l Log
	want(t, "Append", l.Append(nil), api.ErrDown)
	_, e := l.Read(0)
	want(t, "Read", e, api.ErrDown)
	same(t, "Len", l.Len(), 0)
	same(t, "Segments", len(l.Segments()), 0)
}
