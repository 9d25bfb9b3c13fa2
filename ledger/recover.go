package ledger

import (
	"daybook/api"
	"daybook/ckpt"
	"daybook/disk"
	"daybook/rebuild"
	"daybook/store"
)

// settingsCanBe: whether a ledger can be kept so.
func settingsCanBe(s api.Settings) bool {
	return s.Digits >= 0 && s.Digits <= api.MaxDigits && s.Segment >= api.MinSegment && s.Segment <= api.MaxSegment
}

// recovered is the set behind a log's records: made of the newest checkpoint, where the records go on from it, else of the records alone.
func recovered(d *disk.Disk, log *store.Log) (*rebuild.Set, api.Errno) {
	snap, is, why := ckpt.Newest(d, log.Len())
	if why != api.OK {
		return nil, why
	}
	if is {
		set, why := resumed(snap, log)
		if why == api.OK {
			return set, api.OK
		}
	}
	return replayed(log)
}

// resumed is the set of a checkpoint and the records behind it.
func resumed(snap api.Snap, log *store.Log) (*rebuild.Set, api.Errno) {
	set, why := rebuild.From(snap)
	if why != api.OK {
		return nil, why
	}
	return set, set.Replay(log, snap.Base.Events)
}

// replayed is the set of all records.
func replayed(log *store.Log) (*rebuild.Set, api.Errno) {
	set := rebuild.New()
	switch set.Replay(log, 0) {
	case api.OK:
		return set, api.OK
	case api.ErrDown:
		return nil, api.ErrDown
	}
	return nil, api.ErrLog
}
