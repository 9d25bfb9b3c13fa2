package disk

import "daybook/api"

// Fuse lets the power fail behind so many changing calls; -1: not at all.
func (d *Disk) Fuse(n int) api.Errno {
	if !fuseCanBe(n) {
		return api.ErrArg
	}
	if d.down {
		return api.ErrDown
	}
	d.fuse = n
	return api.OK
}

// Down tells whether the power has failed.
func (d *Disk) Down() bool { return d.down }

// Crash is what is left: of each file its synced bytes, and as many of the others as keep tells, with the power back.
func (d *Disk) Crash(keep []int) {
	for i, name := range d.names() {
		f := d.files[name]
		left := f.synced
		if len(keep) > 0 {
			left += min(max(keep[i%len(keep)], 0), len(f.data)-f.synced)
		}
		d.put(name, file{f.data[:left], left})
	}
	d.fuse, d.down = noFuse, false
}
