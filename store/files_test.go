package store

import (
	"bytes"
	"fmt"
	"slices"
	"strings"
	"testing"

	"daybook/api"
	"daybook/disk"
)

// opens: Open of these files answers so, whatever the size of segments; an answer of ErrLog has changed nothing.
func opens(t *testing.T, what string, answer api.Errno, files ...api.File) {
	t.Helper()
	for _, size := range []int{api.MinSegment, api.MaxSegment} {
		d := of(t, files...)
		before := shown(d)
		l, e := Open(d, size)
		if e != answer || (l == nil) != (e != api.OK) {
			t.Errorf("%s: error %d, want %d", what, int(e), int(answer))
		}
		if e != api.OK {
			same(t, what+": the disk", shown(d), before)
		}
	}
}

func TestP4_3NoIndex(t *testing.T) {
	opens(t, "no file", api.OK)
	opens(t, "segment 1 without bytes", api.OK, file1("log-000001", ""))
	opens(t, "a draft", api.OK, file1("log.tmp", "some"))
	opens(t, "segment 1 and a draft", api.OK, file1("log-000001", ""), file1("log.tmp", "1\nsum"))
	opens(t, "segment 1 with a byte", api.ErrLog, file1("log-000001", "\x05"))
	opens(t, "segment 1 with a record", api.ErrLog, file1("log-000001", string(framed("a"))))
	opens(t, "segment 2 without bytes", api.ErrLog, file1("log-000002", ""))
	opens(t, "segments 1 and 2 without bytes", api.ErrLog, file1("log-000001", ""), file1("log-000002", ""))
	opens(t, "the last number", api.ErrLog, file1("log-999999", ""))
}

// What is no segment's file plays no part, whatever is in it.
func TestP4_3OtherFiles(t *testing.T) {
	others := []string{"log-000000", "log-0000001", "log-1000000", "log-00001", "log-1", "log-", "log-00000a", "log-a00001", "log-00001.", "log-.00001",
		"log.000001", "log_000001", "log000001", "log-000002-", "log-000002.tmp", "xlog-000002", "log-2", "log--00002", "log-9223372036854275808",
		"log-18446744073709551617", "log.tmp", "logs", "lo", "mine", "ckpt-000001", "-", "2", "000002"}
	for _, name := range others {
		opens(t, name, api.OK, file1(name, "what it has"))
		opens(t, name, api.OK, append(logFiles([]string{"a"}, []string{"b"}), file1(name, "what it has"))...)
		d := of(t, append(logFiles([]string{"a"}, []string{"b"}), file1(name, "what it has"))...)
		same(t, name, tells(opened(t, d, 64)), tells(opened(t, of(t, logFiles([]string{"a"}, []string{"b"})...), 64)))
		same(t, name, data(d, name), "what it has")
	}
}

func TestP4_3FileNames(t *testing.T) {
	for no, name := range map[int]string{1: "log-000001", 9: "log-000009", 10: "log-000010", 12345: "log-012345", 999998: "log-999998", api.MaxSegments: "log-999999"} {
		same(t, "fileName", fileName(no), name)
		same(t, "numberOf", numberOf(name), no)
	}
	for no := 1; no <= api.MaxSegments; no += 997 {
		same(t, "numberOf", numberOf(segmentFile(no)), no)
	}
}

func TestP4_3SegmentsThatAreThere(t *testing.T) {
	one, two := []string{"a", ""}, []string{text(100)}
	all := func() []api.File { return logFiles(one, two, nil) }
	opens(t, "as it is", api.OK, all()...)
	opens(t, "one segment", api.OK, logFiles(nil)...)
	opens(t, "empty segments", api.OK, logFiles(nil, nil, nil)...)
	opens(t, "the next one, empty", api.OK, append(all(), file1("log-000004", ""))...)
	opens(t, "the next one, with a byte", api.ErrLog, append(all(), file1("log-000004", "\x00"))...)
	opens(t, "the next one, with a record", api.ErrLog, append(all(), file1("log-000004", string(framed("a"))))...)
	opens(t, "the one behind the next", api.ErrLog, append(all(), file1("log-000005", ""))...)
	opens(t, "the next two", api.ErrLog, append(all(), file1("log-000004", ""), file1("log-000005", ""))...)
	opens(t, "the next and the last number", api.ErrLog, append(all(), file1("log-000004", ""), file1("log-999999", ""))...)
	for i := range all() {
		opens(t, "without "+all()[i].Name, api.ErrLog, slices.Delete(all(), i, i+1)...)
	}
}

// What an index may not be, each with its right sum.
func TestP4_3Indexes(t *testing.T) {
	a := []api.File{file1("log-000001", string(framed("a")))}
	ab := append(slices.Clone(a), file1("log-000002", string(framed("b"))))
	try := func(index string, files []api.File, answer api.Errno) {
		t.Helper()
		opens(t, fmt.Sprintf("index %q", index), answer, append(slices.Clone(files), file1("log", index))...)
	}
	try(sealed("1\n"), a, api.OK)
	try(sealed("1 1 9\n2\n"), ab, api.OK)
	for _, lines := range []string{"", "\n", "0\n", "01\n", "+1\n", "-1\n", " 1\n", "1 \n", "1", "1\r\n", "2\n", "1 1 9\n", "1\n1\n", "1\n\n", "\n1\n", "1 1\n", "one\n", "1.\n", "0x1\n", "1\x00\n"} {
		try(sealed(lines), a, api.ErrLog)
	}
	for _, lines := range []string{"1\n", "2\n", "1\n2\n", "1 1 9\n", "1 1 9\n1\n", "1 1 9\n02\n", "01 1 9\n2\n", "1 01 9\n2\n", "1 1 09\n2\n", "1  1 9\n2\n", "1 1  9\n2\n", " 1 1 9\n2\n",
		"1 1 9 \n2\n", "1\t1 9\n2\n", "1 +1 9\n2\n", "1 1 9\n2 1 9\n", "1 1 9\n2 1 9\n3\n", "1 2 9\n2\n", "1 0 9\n2\n", "1 1 8\n2\n", "1 1 10\n2\n", "1 0 0\n2\n", "2\n1 1 9\n", "2 1 9\n1\n", "1 1 9\n3\n",
		"1 1 9\n2\n\n", "1 1 9\n2\n3\n", "1 1\n2\n", "1 1 9 9\n2\n", "1 1 -9\n2\n", "1 1 18446744073709551625\n2\n", "1 1 9\n\n2\n"} {
		try(sealed(lines), ab, api.ErrLog)
	}
	for _, index := range []string{"", "\n", "\n\n", "1\n", "1\n\n", "1\nsum \n", "1\nsum 6751fc53", "1\nsum 6751FC53\n", "1\nsum 6751fc5\n", "1\nsum 06751fc53\n", "1\nsum  6751fc53\n", "1\nSum 6751fc53\n",
		"1\nsum6751fc53\n", "1\n6751fc53\n", "1\nsum 6751fc52\n", "1\nsum 6751fc53\n\n", "1\nsum 6751fc53 \n", "1\nsum 6751fc53\nx", "1\nsum 6751fc53\n1\n", "\n1\nsum 6751fc53\n", "sum 6751fc53\n1\n", "sum 00000000\n", "1\nsum 53fc5167\n"} {
		try(index, a, api.ErrLog)
	}
	try("1\nsum 6751fc53\n", a, api.OK)
	for _, files := range [][]api.File{nil, {file1("log-000001", "")}} { // an index names one segment at least
		try(sealed(""), files, api.ErrLog)
		try("", files, api.ErrLog)
	}
	try(strings.Repeat("\n", 100000), a, api.ErrLog)
}

// A sum with zeros ahead has all its eight digits.
func TestP4_3SumsWithZerosAhead(t *testing.T) {
	seen := 0
	for n := range 400 {
		segs := []api.Segment{{No: 1, Count: n, Bytes: 9 * n}, {No: 2, Last: true}}
		lines := fmt.Sprintf("1 %d %d\n2\n", n, 9*n)
		if !same(t, "the index", string(index(segs)), sealed(lines)) {
			return
		}
		if strings.Contains(sealed(lines), "sum 0") {
			seen++
		}
	}
	if seen == 0 {
		t.Error("no sum began with 0")
	}
}

// Of each segment the frames and a torn end of each length.
func TestP4_3TornEndsInEverySegment(t *testing.T) {
	torn := framed(text(30))
	for cut := range len(torn) + 1 {
		for i := 1; i <= 3; i++ {
			files := logFiles([]string{"a"}, nil, []string{"b", "c"})
			files[i].Data = slices.Concat(files[i].Data, torn[:cut])
			files[i].Synced = len(files[i].Data)
			answer := api.OK
			if cut == len(torn) && i < 3 { // a whole record that the index does not tell
				answer = api.ErrLog
			}
			opens(t, fmt.Sprintf("segment %d with %d bytes of a frame", i, cut), answer, files...)
		}
	}
	for _, end := range []string{"\x01\x08", "\xff\xff", "\x05\x00\xfb", "\x05\x00\xfa\xfe", "\x00\x00\xff\xff\x00\x00\x00\x01", "\x01\x00\xfe\xff\x00\x00\x00\x00a", string(framed(text(2049))), "hello, disk", "\x00\x00\x00\x00"} {
		for i := 1; i <= 3; i++ {
			files := logFiles([]string{"a"}, nil, []string{"b", "c"})
			files[i].Data = slices.Concat(files[i].Data, []byte(end))
			opens(t, fmt.Sprintf("segment %d with %q", i, end), api.ErrLog, files...)
		}
	}
}

// changed: a log's disk with one file's bytes changed.
func changed(t *testing.T, files []api.File, name string, change func(b []byte) []byte) *disk.Disk {
	t.Helper()
	for i := range files {
		if files[i].Name == name {
			files[i].Data = change(bytes.Clone(files[i].Data))
			files[i].Synced = len(files[i].Data)
		}
	}
	return of(t, files...)
}

func TestP4_9EveryBit(t *testing.T) {
	segs := func() []api.File { return logFiles([]string{"hello", ""}, []string{text(20)}, []string{"", "last"}) }
	opens(t, "as it is", api.OK, segs()...)
	for _, name := range []string{"log", "log-000001", "log-000002", "log-000003"} {
		for bit := range 8 * len(data(of(t, segs()...), name)) {
			d := changed(t, segs(), name, func(b []byte) []byte { b[bit/8] ^= 1 << (bit % 8); return b })
			if l, e := Open(d, 64); l != nil || e != api.ErrLog {
				t.Errorf("bit %d of %s turned: error %d", bit, name, int(e))
			}
		}
	}
}

func TestP4_9EveryBitBehindATornEnd(t *testing.T) {
	segs := func() []api.File {
		files := logFiles([]string{"hello"}, []string{text(20)})
		files[1].Data = append(files[1].Data, framed("torn")[:5]...)
		files[2].Data = append(files[2].Data, framed("torn")[:9]...)
		return files
	}
	opens(t, "as it is", api.OK, segs()...)
	for name, n := range map[string]int{"log-000001": len(framed("hello")), "log-000002": len(framed(text(20)))} {
		for bit := range 8 * n {
			d := changed(t, segs(), name, func(b []byte) []byte { b[bit/8] ^= 1 << (bit % 8); return b })
			if l, e := Open(d, 64); l != nil || e != api.ErrLog {
				t.Errorf("bit %d of %s turned: error %d", bit, name, int(e))
			}
		}
	}
}

func TestP4_9Cuts(t *testing.T) {
	segs := func() []api.File {
		return logFiles([]string{"hello", ""}, []string{text(20), "x"}, []string{"", "last"})
	}
	for _, name := range []string{"log", "log-000001", "log-000002"} {
		for cut := range len(data(of(t, segs()...), name)) {
			d := changed(t, segs(), name, func(b []byte) []byte { return b[:cut] })
			if l, e := Open(d, 64); l != nil || e != api.ErrLog {
				t.Errorf("%s cut at %d: error %d", name, cut, int(e))
			}
		}
	}
	last := framedAll([]string{"", "last"})
	for cut := range len(last) { // of the last segment what is left is whole records, and a torn end
		d := changed(t, segs(), "log-000003", func(b []byte) []byte { return b[:cut] })
		recs, _ := unframed(last[:cut])
		same(t, fmt.Sprintf("the last one cut at %d", cut), opened(t, d, 64).Len(), 4+len(recs))
	}
}

func TestP4_9Missing(t *testing.T) {
	files := func() []api.File { return logFiles([]string{"a"}, []string{"b"}) }
	opens(t, "no segment 1", api.ErrLog, files()[0], files()[2])
	opens(t, "no segment 2", api.ErrLog, files()[0], files()[1])
	opens(t, "no index", api.ErrLog, files()[1], files()[2])
	opens(t, "no index, one segment", api.ErrLog, logFiles([]string{"a"})[1])
	opens(t, "the index alone", api.ErrLog, files()[0])
	opens(t, "the index of one alone", api.ErrLog, logFiles([]string{"a"})[0])
}
