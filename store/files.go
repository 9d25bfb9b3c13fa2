package store

import (
	"cmp"
	"strconv"
	"strings"

	"daybook/api"
	"daybook/checksum"
	"daybook/disk"
)

const (
	indexName = "log"
	draftName = "log.tmp" // an index that is not yet whole
	prefix    = "log-"    // of a segment's file
)

// fileName: of the segment of a number.
func fileName(no int) string { return prefix + strconv.Itoa(1000000 + no)[1:] }

// numberOf: of the segment whose file has this name; 0, if it is no segment's.
func numberOf(name string) int {
	no, _ := strconv.Atoi(strings.TrimPrefix(name, prefix))
	if no < 1 || no > api.MaxSegments || name != fileName(no) { // the name itself: Atoi takes more than six digits
		return 0
	}
	return no
}

// index: the text of the index of these segments.
func index(segments []api.Segment) []byte {
	var b []byte
	for _, s := range segments {
		b = strconv.AppendInt(b, int64(s.No), 10)
		if !s.Last {
			b = strconv.AppendInt(append(b, ' '), int64(s.Count), 10)
			b = strconv.AppendInt(append(b, ' '), int64(s.Bytes), 10)
		}
		b = append(b, '\n')
	}
	sum := 1<<32 | uint64(checksum.Of(b)) // a digit ahead of the eight, so that none of these is left out
	b = append(b, "sum "...)
	b = append(b, strconv.FormatUint(sum, 16)[1:]...)
	return append(b, '\n')
}

// files: those of a disk that a log can have: the index, and segments by their numbers.
type files struct {
	index    []byte
	hasIndex bool
	segments map[int][]byte
}

// look reads a disk's files.
func look(d *disk.Disk) (files, api.Errno) {
	f := files{segments: map[int][]byte{}}
	names, e := d.List()
	for _, name := range names {
		no := numberOf(name)
		if name != indexName && no == 0 {
			continue
		}
		n, sizing := d.Size(name)
		b, reading := d.Read(name, 0, n)
		e = cmp.Or(e, sizing, reading)
		if name == indexName {
			f.index, f.hasIndex = b, true
		} else {
			f.segments[no] = b
		}
	}
	return f, e
}

// endAt: behind segment number last there is none, but perhaps one that was begun and not yet named by the index.
func (f files) endAt(last int) bool {
	for no, b := range f.segments {
		if no > last && (no > last+1 || len(b) > 0) {
			return false
		}
	}
	return true
}
