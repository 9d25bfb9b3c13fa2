package ledger

import (
	"daybook/api"
	"daybook/ckpt"
	"daybook/disk"
	"daybook/event"
	"daybook/paper"
	"daybook/store"
)

// records is the events as they stand on the disk.
type records struct {
	disk     *disk.Disk
	log      *store.Log // nil, if nobody opened the ledger
	digits   int
	readOnly bool // the log has refused a record for want of room
}

// count is how many there are.
func (r *records) count() int {
	if r.log == nil {
		return 0
	}
	return r.log.Len()
}

// event reads the one of a number.
func (r *records) event(n int) (api.Event, api.Errno) {
	if n < 1 || n > r.count() {
		return api.Event{}, api.ErrNoRecord
	}
	b, why := r.log.Read(n - 1)
	if why != api.OK {
		return api.Event{}, why
	}
	e, why := event.Decode(b)
	if why != api.OK {
		return api.Event{}, api.ErrLog
	}
	return e, api.OK
}

// export is all of them as a text.
func (r *records) export() (string, api.Errno) {
	var events []api.Event
	for n := 1; n <= r.count(); n++ {
		e, why := r.event(n)
		if why != api.OK {
			return "", why
		}
		events = append(events, e)
	}
	return paper.Print(events, r.digits)
}

// write puts an event that the books take, and that so has bytes, behind all others.
func (r *records) write(e api.Event) api.Errno {
	b, _ := event.Encode(e)
	why := r.log.Append(b)
	if why == api.ErrFull || why == api.ErrMany {
		r.readOnly = true
	}
	return why
}

// trim removes all checkpoints but so many. Where one went there is room again.
func (r *records) trim(keep int) (int, api.Errno) {
	gone, why := ckpt.Trim(r.disk, keep)
	if why == api.OK && gone > 0 {
		r.readOnly = false
	}
	return gone, why
}
