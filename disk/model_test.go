package disk

import (
	"fmt"
	"math"
	"math/rand/v2"
	"slices"
	"strings"
	"testing"

	"daybook/api"
)

const (
	most  = math.MaxInt
	least = math.MinInt
)

// plain is a disk by the chapter's words alone: a list of files, sought from the front, and every answer looked for step by step.
type plain struct {
	s api.Disk
}

func (p *plain) at(name string) int {
	for i, f := range p.s.Files {
		if f.Name == name {
			return i
		}
	}
	return -1
}

func plainName(name string) bool {
	for _, r := range name {
		if !strings.ContainsRune("abcdefghijklmnopqrstuvwxyz0123456789.-_", r) {
			return false
		}
	}
	return len(name) >= 1 && len(name) <= 40
}

func (p *plain) bytes() int {
	n := 0
	for _, f := range p.s.Files {
		n += len(f.Data)
	}
	return n
}

// refuse: the answer of a call on this file that is there if it can be, down and its name looked at first.
func (p *plain) refuse(name string) api.Errno {
	switch {
	case p.s.Down:
		return api.ErrDown
	case !plainName(name):
		return api.ErrName
	case p.at(name) < 0:
		return api.ErrNone
	}
	return api.OK
}

// blown: a changing call would answer OK; whether the fuse lets it.
func (p *plain) blown() bool {
	if p.s.Fuse == 0 {
		p.s.Fuse, p.s.Down = -1, true
		return true
	}
	if p.s.Fuse > 0 {
		p.s.Fuse--
	}
	return false
}

func (p *plain) Create(name string) api.Errno {
	e := p.refuse(name)
	if e == api.OK {
		return api.ErrThere
	}
	if e != api.ErrNone {
		return e
	}
	if len(p.s.Files) == 64 {
		return api.ErrMany
	}
	if p.blown() {
		return api.ErrDown
	}
	p.s.Files = append(p.s.Files, api.File{Name: name})
	p.sort()
	return api.OK
}

func (p *plain) sort() {
	slices.SortFunc(p.s.Files, func(a, b api.File) int { return strings.Compare(a.Name, b.Name) })
}

func (p *plain) Append(name string, b []byte) api.Errno {
	if e := p.refuse(name); e != api.OK {
		return e
	}
	if p.bytes()+len(b) > p.s.Capacity {
		return api.ErrFull
	}
	if p.blown() {
		return api.ErrDown
	}
	f := &p.s.Files[p.at(name)]
	f.Data = slices.Concat(f.Data, b)
	return api.OK
}

func (p *plain) Sync(name string) api.Errno {
	if e := p.refuse(name); e != api.OK {
		return e
	}
	if p.blown() {
		return api.ErrDown
	}
	f := &p.s.Files[p.at(name)]
	f.Synced = len(f.Data)
	return api.OK
}

func (p *plain) Rename(from, to string) api.Errno {
	if p.s.Down {
		return api.ErrDown
	}
	if !plainName(from) || !plainName(to) {
		return api.ErrName
	}
	if p.at(from) < 0 {
		return api.ErrNone
	}
	if p.blown() {
		return api.ErrDown
	}
	if from == to {
		return api.OK
	}
	if i := p.at(to); i >= 0 {
		p.s.Files = slices.Delete(p.s.Files, i, i+1)
	}
	p.s.Files[p.at(from)].Name = to
	p.sort()
	return api.OK
}

func (p *plain) Remove(name string) api.Errno {
	if e := p.refuse(name); e != api.OK {
		return e
	}
	if p.blown() {
		return api.ErrDown
	}
	i := p.at(name)
	p.s.Files = slices.Delete(p.s.Files, i, i+1)
	return api.OK
}

func (p *plain) Read(name string, at, n int) ([]byte, api.Errno) {
	if e := p.refuse(name); e != api.OK {
		return nil, e
	}
	data := p.s.Files[p.at(name)].Data
	if at < 0 || n < 0 || float64(at)+float64(n) > float64(len(data)) {
		return nil, api.ErrArg
	}
	var b []byte
	for i := range n {
		b = append(b, data[at+i])
	}
	return b, api.OK
}

func (p *plain) Size(name string) (int, api.Errno) {
	if e := p.refuse(name); e != api.OK {
		return 0, e
	}
	return len(p.s.Files[p.at(name)].Data), api.OK
}

func (p *plain) List() ([]string, api.Errno) {
	if p.s.Down {
		return nil, api.ErrDown
	}
	var l []string
	for _, f := range p.s.Files {
		l = append(l, f.Name)
	}
	return l, api.OK
}

func (p *plain) Fuse(n int) api.Errno {
	switch {
	case n < -1 || n > 1<<20:
		return api.ErrArg
	case p.s.Down:
		return api.ErrDown
	}
	p.s.Fuse = n
	return api.OK
}

func (p *plain) Free() int  { return p.s.Capacity - p.bytes() }
func (p *plain) Down() bool { return p.s.Down }

func (p *plain) Crash(keep []int) {
	for i := range p.s.Files {
		f := &p.s.Files[i]
		want := 0
		if len(keep) > 0 {
			want = keep[i%len(keep)]
		}
		var left []byte
		for k, b := range f.Data {
			if k < f.Synced || k-f.Synced < want {
				left = append(left, b)
			}
		}
		f.Data, f.Synced = left, len(left)
	}
	p.s.Fuse, p.s.Down = -1, false
}

func (p *plain) State() api.Disk { return p.s }

// calls is what a disk and a model of it both answer.
type calls interface {
	Create(name string) api.Errno
	Append(name string, b []byte) api.Errno
	Sync(name string) api.Errno
	Rename(from, to string) api.Errno
	Remove(name string) api.Errno
	Read(name string, at, n int) ([]byte, api.Errno)
	Size(name string) (int, api.Errno)
	List() ([]string, api.Errno)
	Free() int
	Fuse(n int) api.Errno
	Down() bool
	Crash(keep []int)
	State() api.Disk
}

// step is one call with its arguments, to be done on any number of disks; the files of gone it may take away.
type step struct {
	what string
	do   func(calls) answer
	gone []string
}

// answer is what a call told, nil and empty lists alike.
type answer struct {
	text string
	e    api.Errno
}

func told(v any, e api.Errno) answer { return answer{fmt.Sprint(v), e} }

// done: of a call with no other result.
func done(e api.Errno) answer { return answer{"", e} }

// source gives the same numbers in every run.
func source() *rand.Rand { return rand.New(rand.NewPCG(3, 16)) }

// anyName: mostly one of a few names, so that calls meet one another's files; now and then none.
func anyName(r *rand.Rand) string {
	names := []string{"a", "b", "b-", "b.c", "b_", "0", "zz", strings.Repeat("y", 40)}
	wrong := []string{"", "A", "a/b", "a b", "\x00", "é", strings.Repeat("y", 41), "a\n", "a:", "`", "{", "/", ","}
	if r.IntN(12) == 0 {
		return wrong[r.IntN(len(wrong))]
	}
	return names[r.IntN(len(names))]
}

func anyBytes(r *rand.Rand) []byte {
	b := make([]byte, r.IntN(9))
	for i := range b {
		b[i] = byte(r.IntN(256))
	}
	return b
}

func anyKeep(r *rand.Rand) []int {
	choice := []int{-1, 0, 1, 2, 3, 5, 100, most, least}
	keep := make([]int, r.IntN(5))
	for i := range keep {
		keep[i] = choice[r.IntN(len(choice))]
	}
	return keep
}

func anyPlace(r *rand.Rand) int {
	edges := []int{-1, most, least, most - 1, least + 1}
	if r.IntN(8) == 0 {
		return edges[r.IntN(len(edges))]
	}
	return r.IntN(7)
}

// anyStep: any call, with any arguments.
func anyStep(r *rand.Rand) step {
	name, other, b, at, n, keep := anyName(r), anyName(r), anyBytes(r), anyPlace(r), anyPlace(r), anyKeep(r)
	fuse := []int{-2, -1, 0, 1, 2, 3, 5, api.MaxFuse, api.MaxFuse + 1, most, least}[r.IntN(11)]
	steps := []step{
		{what: "Create " + name, do: func(d calls) answer { return done(d.Create(name)) }},
		{what: "Append " + name, do: func(d calls) answer { return done(d.Append(name, b)) }},
		{what: "Sync " + name, do: func(d calls) answer { return done(d.Sync(name)) }},
		{what: "Rename " + name + " " + other, do: func(d calls) answer { return done(d.Rename(name, other)) }, gone: []string{name, other}},
		{what: "Remove " + name, do: func(d calls) answer { return done(d.Remove(name)) }, gone: []string{name}},
		{what: fmt.Sprint("Read ", name, at, " ", n), do: func(d calls) answer { return told(d.Read(name, at, n)) }},
		{what: "Size " + name, do: func(d calls) answer { return told(d.Size(name)) }},
		{what: "List", do: func(d calls) answer { return told(d.List()) }},
		{what: "Free, Down", do: func(d calls) answer { return answer{fmt.Sprint(d.Free(), d.Down()), api.OK} }},
		{what: fmt.Sprint("Fuse ", fuse), do: func(d calls) answer { return done(d.Fuse(fuse)) }},
		{what: fmt.Sprint("Crash ", keep), do: func(d calls) answer { d.Crash(keep); return answer{} }},
	}
	often := []int{0, 0, 0, 1, 1, 1, 1, 1, 1, 1, 2, 2, 2, 3, 3, 4, 5, 5, 6, 7, 8, 9, 10}
	return steps[often[r.IntN(len(often))]]
}

// show: a state as a text, nil and empty lists alike.
func show(s api.Disk) string { return fmt.Sprintf("%+v", s) }

func same[T comparable](t *testing.T, what string, got, want T) bool {
	t.Helper()
	if got != want {
		t.Errorf("%s: %v, want %v", what, got, want)
	}
	return got == want
}

func from(t *testing.T, s api.Disk) *Disk {
	t.Helper()
	d, e := From(s)
	if e != api.OK || d == nil {
		t.Fatalf("From(%+v): %d", s, int(e))
	}
	return d
}

func want(t *testing.T, what string, got, want api.Errno) {
	t.Helper()
	if got != want {
		t.Errorf("%s: %d, want %d", what, int(got), int(want))
	}
}

// files: what a disk keeps, as name=data:synced.
func files(d *Disk) string {
	var l []string
	for _, f := range d.State().Files {
		l = append(l, fmt.Sprintf("%s=%s:%d", f.Name, f.Data, f.Synced))
	}
	return strings.Join(l, " ")
}

// of: a state with these files and much room.
func of(files ...api.File) api.Disk { return api.Disk{Capacity: 1000, Files: files, Fuse: -1} }

func file1(name, data string, synced int) api.File {
	return api.File{Name: name, Data: []byte(data), Synced: synced}
}
