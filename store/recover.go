package store

import (
	"bytes"

	"daybook/api"
)

// take makes the segments and records of a log's files. A file's bytes are frames and a torn end in one way at most: so the index is right if it is, byte by byte, the one that the files give.
func (l *Log) take(f files) api.Errno {
	last := bytes.Count(f.index, []byte{'\n'}) - 1 // all its lines but the sum's
	for no := 1; no <= last; no++ {
		b, there := f.segments[no]
		if !there || !l.takeSegment(b) {
			return api.ErrLog
		}
	}
	if last < 1 || !f.endAt(last) || !bytes.Equal(f.index, index(l.segments)) {
		return api.ErrLog
	}
	return api.OK
}

// takeSegment makes the next segment of its file's bytes; false, if no crash leaves what stands behind the frames.
func (l *Log) takeSegment(b []byte) bool {
	l.segments = l.withNext()
	for _, frame := range frames(b) {
		l.add(frame)
	}
	end := b[l.last().Bytes:]
	l.torn = len(end) > 0
	return isTorn(end)
}

// start begins a log where there is no index, unless there are records.
func (l *Log) start(f files) api.Errno {
	if !f.endAt(0) {
		return api.ErrLog
	}
	if _, there := f.segments[1]; !there {
		if e := l.disk.Create(fileName(1)); e != api.OK {
			return e
		}
	}
	l.segments = l.withNext()
	return l.lay(l.segments)
}
