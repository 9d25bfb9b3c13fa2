package disk

import (
	"bytes"

	"daybook/api"
)

// change is the one gate of the changing calls: do is done only if the power is there, the call is not refused, and the fuse holds.
func (d *Disk) change(refused api.Errno, do func()) api.Errno {
	if d.down {
		return api.ErrDown
	}
	if refused != api.OK {
		return refused
	}
	if d.fuse == 0 {
		d.fuse, d.down = noFuse, true
		return api.ErrDown
	}
	if d.fuse > 0 {
		d.fuse--
	}
	do()
	return api.OK
}

// find: the file of a name.
func (d *Disk) find(name string) (file, api.Errno) {
	if !isName(name) {
		return file{}, api.ErrName
	}
	f, there := d.files[name]
	if !there {
		return file{}, api.ErrNone
	}
	return f, api.OK
}

// look: the file of a name, for the calls that only look.
func (d *Disk) look(name string) (file, api.Errno) {
	if d.down {
		return file{}, api.ErrDown
	}
	return d.find(name)
}

// Create makes a file without bytes.
func (d *Disk) Create(name string) api.Errno {
	return d.change(d.whyNoMore(name), func() { d.put(name, file{}) })
}

// whyNoMore: what a new file of a name is refused for.
func (d *Disk) whyNoMore(name string) api.Errno {
	switch _, e := d.find(name); {
	case e == api.ErrName:
		return e
	case e == api.OK:
		return api.ErrThere
	case len(d.files) >= api.MaxFiles:
		return api.ErrMany
	}
	return api.OK
}

// Append writes bytes behind a file's; no Sync has them yet.
func (d *Disk) Append(name string, b []byte) api.Errno {
	f, e := d.find(name)
	if e == api.OK && len(b) > d.Free() {
		e = api.ErrFull
	}
	return d.change(e, func() { d.put(name, file{append(f.data, b...), f.synced}) })
}

// Sync makes all of a file's bytes durable.
func (d *Disk) Sync(name string) api.Errno {
	f, e := d.find(name)
	return d.change(e, func() { d.put(name, file{f.data, len(f.data)}) })
}

// Rename gives a file another name; a file that had it is gone.
func (d *Disk) Rename(from, to string) api.Errno {
	f, e := d.find(from)
	if !isName(to) {
		e = api.ErrName
	}
	return d.change(e, func() {
		delete(d.files, from) // ahead of put: the two may be one name
		d.put(to, f)
	})
}

// Remove takes a file away, for good.
func (d *Disk) Remove(name string) api.Errno {
	_, e := d.find(name)
	return d.change(e, func() { delete(d.files, name) })
}

// Read: n bytes of a file, from place at on.
func (d *Disk) Read(name string, at, n int) ([]byte, api.Errno) {
	f, e := d.look(name)
	if e != api.OK {
		return nil, e
	}
	if at < 0 || n < 0 || n > len(f.data)-at { // at + n may be no int
		return nil, api.ErrArg
	}
	return bytes.Clone(f.data[at : at+n]), api.OK
}

// Size: how many bytes a file has.
func (d *Disk) Size(name string) (int, api.Errno) {
	f, e := d.look(name)
	return len(f.data), e
}

// List: the names of all files, rising.
func (d *Disk) List() ([]string, api.Errno) {
	if d.down {
		return nil, api.ErrDown
	}
	return d.names(), api.OK
}
