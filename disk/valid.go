package disk

import "daybook/api"

// valid tells whether a state can be a disk's.
func valid(s api.Disk) bool {
	return capacityCanBe(s.Capacity) && fuseCanBe(s.Fuse) && !(s.Down && s.Fuse != noFuse) && filesCanBe(s.Files, s.Capacity)
}

func capacityCanBe(capacity int) bool { return 0 <= capacity && capacity <= api.MaxDisk }

func fuseCanBe(n int) bool { return noFuse <= n && n <= api.MaxFuse }

// filesCanBe tells whether these files can be together on a disk of so much room.
func filesCanBe(files []api.File, room int) bool {
	if len(files) > api.MaxFiles {
		return false
	}
	last := "" // ahead of every name
	for _, f := range files {
		room -= len(f.Data)
		if !isName(f.Name) || f.Name <= last || f.Synced < 0 || f.Synced > len(f.Data) || room < 0 {
			return false
		}
		last = f.Name
	}
	return true
}

// isName tells whether a file can have this name.
func isName(name string) bool {
	if name == "" || len(name) > api.MaxName {
		return false
	}
	for _, b := range []byte(name) {
		if !inName(b) {
			return false
		}
	}
	return true
}

func inName(b byte) bool {
	return 'a' <= b && b <= 'z' || '0' <= b && b <= '9' || b == '.' || b == '-' || b == '_'
}
