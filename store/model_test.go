package store

import (
	"bytes"
	"encoding/binary"
	"fmt"
	"hash/crc32"
	"math"
	"math/rand/v2"
	"regexp"
	"slices"
	"strconv"
	"strings"
	"testing"

	"daybook/api"
	"daybook/disk"
)

const (
	most  = math.MaxInt
	least = math.MinInt
)

// source gives the same numbers in every run.
func source() *rand.Rand { return rand.New(rand.NewPCG(4, 12)) }

func anyBytes(r *rand.Rand, n int) []byte {
	b := make([]byte, n)
	for i := range b {
		b[i] = byte(r.IntN(256))
	}
	return b
}

// framed: a record's frame, by the words of 4.1.
func framed(rec string) []byte {
	var b []byte
	b = binary.LittleEndian.AppendUint16(b, uint16(len(rec)))
	b = binary.LittleEndian.AppendUint16(b, uint16(65535-len(rec)))
	b = binary.LittleEndian.AppendUint32(b, crc32.ChecksumIEEE([]byte(rec)))
	return append(b, rec...)
}

func framedAll(recs []string) []byte {
	var b []byte
	for _, rec := range recs {
		b = append(b, framed(rec)...)
	}
	return b
}

// indexed: the index of segments with these records, by the words of 4.2.
func indexed(segs [][]string) string {
	text := ""
	for i, recs := range segs[:len(segs)-1] {
		text += fmt.Sprintf("%d %d %d\n", i+1, len(recs), len(framedAll(recs)))
	}
	return sealed(text + fmt.Sprintf("%d\n", len(segs)))
}

// sealed: lines with their sum.
func sealed(lines string) string {
	return lines + fmt.Sprintf("sum %08x\n", crc32.ChecksumIEEE([]byte(lines)))
}

func segmentFile(no int) string { return fmt.Sprintf("log-%06d", no) }

var (
	indexForm   = regexp.MustCompile(`^([1-9][0-9]* (0|[1-9][0-9]*) (0|[1-9][0-9]*)\n)*[1-9][0-9]*\nsum [0-9a-f]{8}\n$`)
	segmentForm = regexp.MustCompile(`^log-[0-9]{6}$`)
)

// unframed: the records at the beginning of b, as texts, and what stands behind them.
func unframed(b []byte) ([]string, []byte) {
	var recs []string
	for len(b) >= 8 {
		n := int(binary.LittleEndian.Uint16(b))
		if n > 2048 || int(binary.LittleEndian.Uint16(b[2:])) != 65535-n || len(b) < 8+n {
			break
		}
		rec := string(b[8 : 8+n])
		if binary.LittleEndian.Uint32(b[4:]) != crc32.ChecksumIEEE([]byte(rec)) {
			break
		}
		recs, b = append(recs, rec), b[8+n:]
	}
	return recs, b
}

// tornEnd: by trying every frame's beginning.
func tornEnd(b []byte) bool {
	if len(b) == 0 {
		return true
	}
	for n := range 2049 {
		begin := []byte{byte(n), byte(n / 256), byte((65535 - n) % 256), byte((65535 - n) / 256)}
		if k := min(4, len(b)); len(b) < 8+n && bytes.Equal(begin[:k], b[:k]) {
			return true
		}
	}
	return false
}

// plain is a log by the chapter's words alone, on a disk of its own: what the records of each segment are, as texts.
type plain struct {
	d    *disk.Disk
	size int
	segs [][]string
	torn bool
	down bool
}

// find: whether the files of a state are a log's, and whether it has an index.
func (p *plain) find(s api.Disk) (ok, there bool) {
	data := map[string][]byte{}
	index := ""
	for _, f := range s.Files {
		if f.Name == "log" {
			index, there = string(f.Data), true
		} else if segmentForm.MatchString(f.Name) && f.Name != "log-000000" {
			data[f.Name] = f.Data
		}
	}
	named := 0
	if there {
		if !indexForm.MatchString(index) {
			return false, there
		}
		lines := strings.SplitAfter(index, "\n")
		lines = lines[:len(lines)-2] // without the sum, and the nothing behind it
		if sealed(strings.Join(lines, "")) != index {
			return false, there
		}
		named = len(lines)
		for i, line := range lines {
			b, has := data[segmentFile(i+1)]
			recs, end := unframed(b)
			want := fmt.Sprintf("%d %d %d\n", i+1, len(recs), len(framedAll(recs)))
			if i == named-1 {
				want = fmt.Sprintf("%d\n", i+1)
			}
			if !has || line != want || !tornEnd(end) {
				return false, there
			}
			p.segs, p.torn = append(p.segs, recs), len(end) > 0
			delete(data, segmentFile(i+1))
		}
	}
	if b, has := data[segmentFile(named+1)]; has && len(b) == 0 {
		delete(data, segmentFile(named+1))
	}
	return len(data) == 0, there
}

func plainOpen(d *disk.Disk, size int) (*plain, api.Errno) {
	if size < 64 || size > 65536 {
		return nil, api.ErrArg
	}
	p := &plain{d: d, size: size}
	if d.Down() {
		return nil, api.ErrDown
	}
	ok, there := p.find(d.State())
	if !ok {
		return nil, api.ErrLog
	}
	if !there {
		if _, none := d.Size("log-000001"); none == api.ErrNone {
			if e := d.Create("log-000001"); e != api.OK {
				return nil, e
			}
		}
		p.segs = [][]string{nil}
		if e := p.layDown(p.segs); e != api.OK {
			return nil, e
		}
	}
	return p, api.OK
}

func (p *plain) met(e api.Errno) api.Errno {
	p.down = p.down || e == api.ErrDown
	return e
}

func (p *plain) layDown(segs [][]string) api.Errno {
	if e := p.met(p.d.Remove("log.tmp")); e != api.OK && e != api.ErrNone {
		return e
	}
	if e := p.met(p.d.Create("log.tmp")); e != api.OK {
		return e
	}
	if e := p.met(p.d.Append("log.tmp", []byte(indexed(segs)))); e != api.OK {
		return e
	}
	if e := p.met(p.d.Sync("log.tmp")); e != api.OK {
		return e
	}
	return p.met(p.d.Rename("log.tmp", "log"))
}

func (p *plain) begin() api.Errno {
	name := segmentFile(len(p.segs) + 1)
	segs := append(slices.Clone(p.segs), nil)
	e := p.met(p.d.Remove(name))
	if e == api.OK || e == api.ErrNone {
		e = p.met(p.d.Create(name))
		if e == api.OK {
			e = p.layDown(segs)
		}
	}
	if e == api.OK {
		p.segs, p.torn = segs, false
	} else if e != api.ErrDown {
		p.met(p.d.Remove("log.tmp"))
		p.met(p.d.Remove(name))
	}
	return e
}

func (p *plain) Append(rec []byte) api.Errno {
	if p.down {
		return api.ErrDown
	}
	if len(rec) > 2048 {
		return api.ErrLong
	}
	if len(framedAll(p.segs[len(p.segs)-1])) >= p.size || p.torn {
		if e := p.begin(); e != api.OK {
			return e
		}
	}
	n := len(p.segs)
	if e := p.met(p.d.Append(segmentFile(n), framed(string(rec)))); e != api.OK {
		return e
	}
	if e := p.met(p.d.Sync(segmentFile(n))); e != api.OK {
		return e
	}
	p.segs[n-1] = append(slices.Clone(p.segs[n-1]), string(rec))
	return api.OK
}

func (p *plain) Len() int { return len(slices.Concat(p.segs...)) }

func (p *plain) Segments() []api.Segment {
	var l []api.Segment
	first := 0
	for i, recs := range p.segs {
		l = append(l, api.Segment{No: i + 1, First: first, Count: len(recs), Bytes: len(framedAll(recs)), Last: i == len(p.segs)-1})
		first += len(recs)
	}
	return l
}

func (p *plain) Read(i int) ([]byte, api.Errno) {
	if p.down {
		return nil, api.ErrDown
	}
	if i < 0 || i >= p.Len() {
		return nil, api.ErrNoRecord
	}
	no := 0
	for i >= len(p.segs[no]) {
		i -= len(p.segs[no])
		no++
	}
	rec := p.segs[no][i]
	b, e := p.d.Read(segmentFile(no+1), len(framedAll(p.segs[no][:i])), 8+len(rec))
	if p.met(e) == api.ErrDown {
		return nil, e
	}
	if e != api.OK || string(b) != string(framed(rec)) {
		return nil, api.ErrLog
	}
	return []byte(rec), api.OK
}

// records is what a log and a model of it both answer.
type records interface {
	Append(rec []byte) api.Errno
	Len() int
	Read(i int) ([]byte, api.Errno)
	Segments() []api.Segment
}

// all: the records, as texts; an error in the place of one that is not read.
func all(l records) []string {
	var out []string
	for i := range l.Len() {
		b, e := l.Read(i)
		if e != api.OK {
			b = fmt.Appendf(nil, "error %d", int(e))
		}
		out = append(out, string(b))
	}
	return out
}

// tells: all that can be asked of a log without a change.
func tells(l records) string { return fmt.Sprintf("%+v %q", l.Segments(), all(l)) }

func same[T comparable](t *testing.T, what string, got, want T) bool {
	t.Helper()
	if got != want {
		t.Errorf("%s: %s, want %s", what, quoted(got), quoted(want))
	}
	return got == want
}

// quoted: texts hold any bytes.
func quoted(v any) string {
	if s, ok := v.(string); ok {
		return strconv.Quote(s)
	}
	return fmt.Sprint(v)
}

func want(t *testing.T, what string, got, want api.Errno) {
	t.Helper()
	if got != want {
		t.Errorf("%s: error %d, want %d", what, int(got), int(want))
	}
}

// of: a disk with these files, synced, and much room.
func of(t *testing.T, files ...api.File) *disk.Disk {
	t.Helper()
	slices.SortFunc(files, func(a, b api.File) int { return strings.Compare(a.Name, b.Name) })
	return from(t, api.Disk{Capacity: api.MaxDisk, Files: files, Fuse: -1})
}

func from(t *testing.T, s api.Disk) *disk.Disk {
	t.Helper()
	d, e := disk.From(s)
	if e != api.OK {
		t.Fatalf("the disk of %+v: error %d", s, int(e))
	}
	return d
}

func file1(name, data string) api.File {
	return api.File{Name: name, Data: []byte(data), Synced: len(data)}
}

// logFiles: those of a log with these records in its segments.
func logFiles(segs ...[]string) []api.File {
	files := []api.File{file1("log", indexed(segs))}
	for i, recs := range segs {
		files = append(files, file1(segmentFile(i+1), string(framedAll(recs))))
	}
	return files
}

func opened(t *testing.T, d *disk.Disk, size int) *Log {
	t.Helper()
	l, e := Open(d, size)
	if e != api.OK || l == nil {
		t.Fatalf("Open(%d): error %d of %q", size, int(e), shown(d))
	}
	return l
}

// begun: an empty disk, and a log on it.
func begun(t *testing.T, capacity, size int) (*disk.Disk, *Log) {
	t.Helper()
	d, e := disk.New(capacity)
	if e != api.OK {
		t.Fatalf("a disk of %d: error %d", capacity, int(e))
	}
	return d, opened(t, d, size)
}

// shown: all that a disk keeps, nil and empty bytes alike.
func shown(d *disk.Disk) string {
	s := d.State()
	text := fmt.Sprint("capacity ", s.Capacity, " fuse ", s.Fuse, " down ", s.Down)
	for _, f := range s.Files {
		text += " " + f.Name + "=" + string(f.Data) + ":" + strconv.Itoa(f.Synced)
	}
	return text
}

// names: of a disk's files.
func names(d *disk.Disk) string {
	var l []string
	for _, f := range d.State().Files {
		l = append(l, f.Name)
	}
	return strings.Join(l, " ")
}

// data: of a disk's file, down or not; empty, if there is none.
func data(d *disk.Disk, name string) string {
	for _, f := range d.State().Files {
		if f.Name == name {
			return string(f.Data)
		}
	}
	return ""
}

func text(n int) string { return strings.Repeat("x", n) }
