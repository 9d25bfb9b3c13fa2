package store

import (
	"slices"

	"daybook/api"
)

// Append adds a record, synced.
func (l *Log) Append(rec []byte) api.Errno {
	if !l.up {
		return api.ErrDown
	}
	frame, e := Frame(rec)
	if e != api.OK {
		return e
	}
	if l.last().Bytes >= l.size || l.torn {
		e = l.begin()
	}
	if e != api.OK {
		return e
	}
	name := fileName(l.last().No)
	e = l.inOrder(
		func() api.Errno { return l.disk.Append(name, frame) },
		func() api.Errno { return l.disk.Sync(name) },
	)
	if e == api.OK {
		l.add(frame)
	}
	return e
}

// withNext: the segments, and a new one behind them.
func (l *Log) withNext() []api.Segment {
	more := slices.Clone(l.segments)
	for i := range more {
		more[i].Last = false
	}
	return append(more, api.Segment{No: len(more) + 1, First: len(l.entries), Last: true})
}

// begin begins a new segment, or leaves the log as it is.
func (l *Log) begin() api.Errno {
	if len(l.segments) >= api.MaxSegments {
		return api.ErrMany
	}
	more := l.withNext()
	name := fileName(len(more))
	e := l.inOrder(
		func() api.Errno { return l.clear(name) },
		func() api.Errno { return l.disk.Create(name) },
		func() api.Errno { return l.lay(more) },
	)
	if e == api.OK {
		l.segments, l.torn = more, false
	} else if e != api.ErrDown {
		l.heard(l.disk.Remove(draftName))
		l.heard(l.disk.Remove(name))
	}
	return e
}

// lay lays the index of these segments down. The old one is there until the new one, synced, takes its name.
func (l *Log) lay(segments []api.Segment) api.Errno {
	return l.inOrder(
		func() api.Errno { return l.clear(draftName) },
		func() api.Errno { return l.disk.Create(draftName) },
		func() api.Errno { return l.disk.Append(draftName, index(segments)) },
		func() api.Errno { return l.disk.Sync(draftName) },
		func() api.Errno { return l.disk.Rename(draftName, indexName) },
	)
}

// last is the segment that takes more.
func (l *Log) last() *api.Segment { return &l.segments[len(l.segments)-1] }

// add keeps a frame that stands behind all others.
func (l *Log) add(frame []byte) {
	s := l.last()
	l.entries = append(l.entries, entry{s.No, s.Bytes, frame})
	s.Count++
	s.Bytes += len(frame)
}

// clear removes a file that need not be there.
func (l *Log) clear(name string) api.Errno {
	e := l.disk.Remove(name)
	if e == api.ErrNone {
		return api.OK
	}
	return e
}

// inOrder makes calls one behind the other, up to the first that answers an error.
func (l *Log) inOrder(calls ...func() api.Errno) api.Errno {
	for _, call := range calls {
		if e := l.heard(call()); e != api.OK {
			return e
		}
	}
	return api.OK
}
