package ckpt

import (
	"slices"
	"strconv"
	"strings"

	"daybook/api"
	"daybook/disk"
)

const (
	prefix    = "ckpt-"    // of a checkpoint's file
	draftName = "ckpt.tmp" // a checkpoint that is not yet whole
)

// Name is the file of a checkpoint of so many events.
func Name(events int) string {
	if events < 0 || events > api.MaxEvents {
		return ""
	}
	return prefix + strconv.Itoa(1000000 + events)[1:]
}

// eventsOf: of the checkpoint whose file has this name; false, if it is no checkpoint's.
func eventsOf(name string) (int, bool) {
	events, _ := strconv.Atoi(strings.TrimPrefix(name, prefix))
	return events, name == Name(events) // the name itself: Atoi takes other digits too; no file's name is empty
}

// finish fills the draft and gives it its name, which it gets only when all its bytes are synced.
func finish(d *disk.Disk, b []byte, name string) api.Errno {
	if e := d.Append(draftName, b); e != api.OK {
		return e
	}
	if e := d.Sync(draftName); e != api.OK {
		return e
	}
	return d.Rename(draftName, name)
}

// load reads the checkpoint of so many events from its file; false, if that is spoilt or another one's.
func load(d *disk.Disk, events int) (api.Snap, bool, api.Errno) {
	n, e := d.Size(Name(events))
	if e != api.OK {
		return api.Snap{}, false, e
	}
	b, e := d.Read(Name(events), 0, n)
	if e != api.OK {
		return api.Snap{}, false, e
	}
	s, e := Decode(b)
	if e != api.OK || s.Base.Events != events {
		return api.Snap{}, false, api.OK
	}
	return s, true, api.OK
}

// outdated: of a disk's names, rising, those that go when so many checkpoints are kept.
func outdated(names []string, keep int) []string {
	var old []string
	for _, name := range names {
		if _, is := eventsOf(name); is {
			old = append(old, name)
		}
	}
	old = old[:max(0, len(old)-keep)]
	if slices.Contains(names, draftName) {
		old = append(old, draftName) // its name is behind all checkpoints'
	}
	return old
}
