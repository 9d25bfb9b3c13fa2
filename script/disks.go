package script

import (
	"slices"
	"strconv"

	"daybook/api"
	"daybook/ckpt"
	"daybook/disk"
	"daybook/ledger"
)

func (p *player) fuse(c api.Command) answer { return done(p.disk.Fuse(numberAt(c, 0))) }

func (p *player) free(api.Command) answer { return counted(p.disk.Free(), api.OK) }

func (p *player) files(api.Command) answer {
	return listed(p.disk.State().Files, api.OK, fileWords)
}

func fileWords(f api.File) []string {
	return []string{f.Name, strconv.Itoa(len(f.Data)), strconv.Itoa(f.Synced)}
}

func (p *player) crash(c api.Command) answer {
	var keep []int
	for i := range c.Args {
		keep = append(keep, numberAt(c, i))
	}
	p.disk.Crash(keep)
	p.ledger = nil
	return good()
}

func (p *player) reopen(api.Command) answer {
	opened, why := ledger.Open(p.disk, p.settings)
	p.ledger = opened
	if why != api.OK {
		return failed(why)
	}
	return counted(opened.Len(), api.OK)
}

func (p *player) lose(c api.Command) answer {
	state := p.disk.State()
	i := p.checkpoint(state.Files, numberAt(c, 0))
	if i < 0 {
		return failed(api.ErrNone)
	}
	name := state.Files[i].Name
	state.Files = slices.Delete(state.Files, i, i+1)
	return p.replaced(state, name)
}

func (p *player) turn(c api.Command) answer {
	state := p.disk.State()
	i, at := p.checkpoint(state.Files, numberAt(c, 0)), numberAt(c, 1)
	if i < 0 || at < 0 || at >= len(state.Files[i].Data) {
		return failed(api.ErrNone)
	}
	state.Files[i].Data[at] ^= byte(numberAt(c, 2)) // the lowest eight bits: that is modulo 256
	return p.replaced(state, state.Files[i].Name)
}

// checkpoint is the place among the disk's files of the n-th checkpoint's from the last, from 0 on; -1, if there is none, or the disk is down.
func (p *player) checkpoint(files []api.File, n int) int {
	events, why := ckpt.List(p.disk)
	if why != api.OK || n < 0 || n >= len(events) {
		return -1
	}
	name := ckpt.Name(events[len(events)-1-n])
	return slices.IndexFunc(files, func(f api.File) bool { return f.Name == name })
}

// replaced goes on with a disk of such a state, on which no ledger is open.
func (p *player) replaced(state api.Disk, name string) answer {
	p.disk, _ = disk.From(state)
	p.ledger = nil
	return good(name)
}
