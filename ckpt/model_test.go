package ckpt

import (
	"bytes"
	"encoding/binary"
	"fmt"
	"hash/crc32"
	"math"
	"math/big"
	"math/rand/v2"
	"reflect"
	"regexp"
	"slices"
	"strconv"
	"strings"
	"testing"

	"daybook/api"
	"daybook/disk"
)

const (
	most  = math.MaxInt
	least = math.MinInt
)

// source gives the same numbers in every run.
func source(n uint64) *rand.Rand { return rand.New(rand.NewPCG(11, n)) }

// piece is a part of a body that is not made of others: n an int, l the count of a list, t the count of a text, b a text's bytes, f a flag.
type piece struct {
	what  byte
	bytes []byte
}

// digits: a count's bytes, by the words of 5.2.
func digits(n *big.Int) []byte {
	var b []byte
	rest, digit := new(big.Int).Set(n), new(big.Int)
	for {
		rest.DivMod(rest, big.NewInt(128), digit)
		if rest.Sign() == 0 {
			return append(b, byte(digit.Int64()))
		}
		b = append(b, byte(digit.Int64()+128))
	}
}

func count(n int) []byte { return digits(big.NewInt(int64(n))) }

// anInt: an int's bytes, by the words of 11.1.
func anInt(n int64) []byte {
	double := new(big.Int).Mul(big.NewInt(n), big.NewInt(2))
	if n < 0 {
		double.Neg(double).Sub(double, big.NewInt(1))
	}
	return digits(double)
}

// pieces: of a value: the order of a body is that of api's fields.
func pieces(v reflect.Value) (l []piece) {
	switch v.Kind() {
	case reflect.Int, reflect.Int64:
		return []piece{{'n', anInt(v.Int())}}
	case reflect.Bool:
		if v.Bool() {
			return []piece{{'f', []byte{1}}}
		}
		return []piece{{'f', []byte{0}}}
	case reflect.String:
		return []piece{{'t', count(v.Len())}, {'b', []byte(v.String())}}
	case reflect.Slice:
		l = []piece{{'l', count(v.Len())}}
		for i := range v.Len() {
			l = append(l, pieces(v.Index(i))...)
		}
	case reflect.Struct:
		for i := range v.NumField() {
			l = append(l, pieces(v.Field(i))...)
		}
	}
	return l
}

func piecesOf(s api.Snap) []piece { return pieces(reflect.ValueOf(s)) }

func joint(l []piece) (b []byte) {
	for _, p := range l {
		b = append(b, p.bytes...)
	}
	return b
}

func bodyOf(s api.Snap) []byte { return joint(piecesOf(s)) }

// headed: what stands ahead of a body, with these eight bytes and this length, and the right sum.
func headed(mark string, n int) []byte {
	b := binary.LittleEndian.AppendUint32([]byte(mark), uint32(n))
	return binary.LittleEndian.AppendUint32(b, crc32.ChecksumIEEE(b))
}

// plainSeal: a body as a checkpoint.
func plainSeal(body []byte) []byte {
	b := append(headed("daybook1", len(body)), body...)
	return binary.LittleEndian.AppendUint32(b, crc32.ChecksumIEEE(body))
}

func plainEncode(s api.Snap) []byte { return plainSeal(bodyOf(s)) }

// plainReader reads by the words of 11.1 into any value.
type plainReader struct {
	left []byte
	bad  bool
}

func (p *plainReader) count() uint64 {
	n, size := binary.Uvarint(p.left)
	if size <= 0 || !bytes.Equal(p.left[:size], digits(new(big.Int).SetUint64(n))) {
		p.bad = true
		return 0
	}
	p.left = p.left[size:]
	return n
}

func (p *plainReader) take(n uint64) []byte {
	if p.bad || n > uint64(len(p.left)) {
		p.bad = true
		return make([]byte, 1)
	}
	b := p.left[:n]
	p.left = p.left[n:]
	return b
}

func (p *plainReader) fill(v reflect.Value) {
	switch v.Kind() {
	case reflect.Int, reflect.Int64:
		n := p.count()
		v.SetInt(int64(n/2) ^ -int64(n%2))
	case reflect.Bool:
		b := p.take(1)[0]
		p.bad = p.bad || b > 1
		v.SetBool(b == 1)
	case reflect.String:
		v.SetString(string(p.take(p.count())))
	case reflect.Slice:
		for n := p.count(); n > 0 && !p.bad; n-- {
			part := reflect.New(v.Type().Elem()).Elem()
			p.fill(part)
			v.Set(reflect.Append(v, part))
		}
	case reflect.Struct:
		for i := range v.NumField() {
			p.fill(v.Field(i))
		}
	}
}

// plainDecode: the Snap of a checkpoint's bytes; false, if they are none's.
func plainDecode(b []byte) (s api.Snap, ok bool) {
	if len(b) < 20 || !bytes.Equal(b, plainSeal(b[16:len(b)-4])) {
		return s, false
	}
	p := &plainReader{left: b[16 : len(b)-4]}
	p.fill(reflect.ValueOf(&s).Elem())
	return s, !p.bad && len(p.left) == 0
}

// alike: the same, where nil and empty lists are.
func alike(a, b any) bool { return alikeValues(reflect.ValueOf(a), reflect.ValueOf(b)) }

func alikeValues(a, b reflect.Value) bool {
	switch a.Kind() {
	case reflect.Slice:
		if a.Len() != b.Len() {
			return false
		}
		for i := range a.Len() {
			if !alikeValues(a.Index(i), b.Index(i)) {
				return false
			}
		}
		return true
	case reflect.Struct:
		for i := range a.NumField() {
			if !alikeValues(a.Field(i), b.Field(i)) {
				return false
			}
		}
		return true
	}
	return a.Equal(b)
}

// filler fills any value: ints, texts and flags by functions, lists with as many parts as it tells.
type filler struct {
	number func() int64
	text   func() string
	flag   func() bool
	parts  func() int
}

func (f filler) fill(v reflect.Value) {
	switch v.Kind() {
	case reflect.Int, reflect.Int64:
		v.SetInt(f.number())
	case reflect.Bool:
		v.SetBool(f.flag())
	case reflect.String:
		v.SetString(f.text())
	case reflect.Slice:
		n := f.parts()
		v.Set(reflect.MakeSlice(v.Type(), n, n))
		for i := range n {
			f.fill(v.Index(i))
		}
	case reflect.Struct:
		for i := range v.NumField() {
			f.fill(v.Field(i))
		}
	}
}

func (f filler) snap() (s api.Snap) {
	f.fill(reflect.ValueOf(&s).Elem())
	return s
}

// full: every field of every list is filled, each with something else.
func full(parts int) api.Snap {
	n := 0
	next := func() int { n++; return n }
	return filler{
		func() int64 { return int64(next() * (1 - n%2*2)) },
		func() string { return "text " + strconv.Itoa(next()) },
		func() bool { return next()%3 > 0 },
		func() int { return parts },
	}.snap()
}

// allSame: every int, text and flag is this one.
func allSame(n int64, text string, flag bool, parts int) api.Snap {
	return filler{func() int64 { return n }, func() string { return text }, func() bool { return flag }, func() int { return parts }}.snap()
}

func everyByte() string {
	b := make([]byte, 256)
	for i := range b {
		b[i] = byte(i)
	}
	return string(b)
}

func anyText(r *rand.Rand, n int) string {
	b := make([]byte, n)
	for i := range b {
		b[i] = byte(r.IntN(256))
	}
	return string(b)
}

// anySnap: lists of up to so many parts.
func anySnap(r *rand.Rand, parts int) api.Snap {
	return filler{
		func() int64 {
			switch n := int64(r.Uint64()) >> r.IntN(64); r.IntN(6) {
			case 0:
				return 0
			case 1:
				return []int64{math.MinInt64, math.MinInt64 + 1, math.MaxInt64, math.MaxInt64 - 1}[r.IntN(4)]
			default:
				return n
			}
		},
		func() string { return anyText(r, []int{0, 0, 1, 2, 7, r.IntN(30), r.IntN(300)}[r.IntN(7)]) },
		func() bool { return r.IntN(2) == 0 },
		func() int { return r.IntN(parts + 1) },
	}.snap()
}

// someSnaps: those of all sorts, and so many others.
func someSnaps(r *rand.Rand, others int) []api.Snap {
	l := []api.Snap{{}, full(1), full(2), full(5), byHand(), allSame(0, "", false, 1), allSame(-1, "", true, 3), allSame(0, "", false, 200), emptied(),
		allSame(math.MinInt64, everyByte(), true, 2), allSame(math.MaxInt64, "\x00", false, 2), allSame(math.MinInt64+1, "\xff\xfe", true, 1),
		allSame(1, strings.Repeat("long ", 1000), true, 1), {Base: api.Base{Keys: []string{strings.Repeat("k", 70000)}}}}
	for bit := range 63 { // ints about each power of two, texts about each power of 128
		for _, n := range []int64{1<<bit - 1, 1 << bit, -1 << bit, -1<<bit - 1} {
			l = append(l, api.Snap{Base: api.Base{Events: int(n), Lock: int(-n)}, AsOf: int(n), Balances: []api.Balance{{Own: n, Rollup: -n}}})
		}
	}
	for _, n := range []int{126, 127, 128, 129, 16383, 16384} {
		l = append(l, api.Snap{Base: api.Base{Keys: []string{strings.Repeat("k", n), ""}}}, api.Snap{Base: api.Base{Keys: make([]string, n)}}, api.Snap{Days: make([]api.DayRow, n)})
	}
	for i := range others {
		l = append(l, anySnap(r, 1+i%5))
	}
	return l
}

// emptied: all lists are there, and empty.
func emptied() api.Snap {
	s := allSame(0, "", false, 0)
	s.Base.Entries = []api.Entry{{Lines: []api.Line{}}, {Lines: nil}}
	return s
}

// byHand is the Snap whose bytes are written out in bytesByHand.
func byHand() api.Snap {
	return api.Snap{
		Base: api.Base{
			Events: 3, Keys: []string{"k", ""},
			Accounts: []api.Account{{Name: "A", Type: 1, Opened: 5, Closed: true}, {Name: "A:B", Type: 1, Opened: 6}},
			Rows:     []api.Posting{{Seq: 1, Line: 2, Day: 64, Kind: 3, Key: "k", Account: "A", Amount: -64, Tag: "t", Memo: "m n"}},
			Entries:  []api.Entry{{Key: "k", Day: 5, Lines: []api.Line{{Account: "A", Amount: 1, Tag: "t"}, {Account: "B", Amount: -1}}, Void: "v"}},
			Invoices: []api.Claim{{Key: "i", Account: "A", Day: 1, Due: 2, Amount: 100}},
			Payments: []api.Claim{{Key: "p", Account: "A", Day: 3, Amount: 63}},
			Allots:   []api.Allot{{Pay: "p", Invoice: "i", Day: 4, Amount: 64}},
			Lock:     7,
		},
		Balances: []api.Balance{{Account: "A", Own: -1, Rollup: 1}},
		Days:     []api.DayRow{{Account: "A", Day: 8, Change: -500, Balance: 500}},
		Claims:   []api.Claim{{Key: "c", Account: "B", Day: 9, Due: 10, Amount: 11}},
		Allots:   []api.Allot{{Pay: "q", Invoice: "j", Day: 12, Amount: 13}},
		AsOf:     -2,
	}
}

const bytesByHand = "daybook1" + "\x6a\x00\x00\x00" + "\x43\x28\xce\x67" +
	"\x06" + // Events
	"\x02\x01k\x00" + // Keys
	"\x02\x01A\x02\x0a\x01\x03A:B\x02\x0c\x00" + // Accounts
	"\x01\x02\x04\x80\x01\x06\x01k\x01A\x7f\x01t\x03m n" + // Rows
	"\x01\x01k\x0a\x02\x01A\x02\x01t\x01B\x01\x00\x01v" + // Entries
	"\x01\x01i\x01A\x02\x04\xc8\x01" + // Invoices
	"\x01\x01p\x01A\x06\x00\x7e" + // Payments
	"\x01\x01p\x01i\x08\x80\x01" + // the base's Allots
	"\x0e" + // Lock
	"\x01\x01A\x01\x02" + // Balances
	"\x01\x01A\x10\xe7\x07\xe8\x07" + // Days
	"\x01\x01c\x01B\x12\x14\x16" + // Claims
	"\x01\x01q\x01j\x18\x1a" + // the view's Allots
	"\x03" + // AsOf
	"\x31\xa6\x2d\x91"

// of: a disk with these files.
func of(t *testing.T, files ...api.File) *disk.Disk {
	t.Helper()
	files = slices.SortedFunc(slices.Values(files), func(a, b api.File) int { return strings.Compare(a.Name, b.Name) })
	d, e := disk.From(api.Disk{Capacity: api.MaxDisk, Files: files, Fuse: -1})
	if e != api.OK {
		t.Fatalf("no disk: error %d", int(e))
	}
	return d
}

// copyOf: a disk of the same state.
func copyOf(t *testing.T, d *disk.Disk) *disk.Disk {
	t.Helper()
	c, e := disk.From(d.State())
	if e != api.OK {
		t.Fatalf("no disk: error %d", int(e))
	}
	return c
}

// file1: one with all its bytes synced.
func file1(name, data string) api.File {
	return api.File{Name: name, Data: []byte(data), Synced: len(data)}
}

// small: a Snap of so many events; mark tells it from others of as many.
func small(events, mark int) api.Snap {
	return api.Snap{Base: api.Base{Events: events, Keys: []string{"k" + strconv.Itoa(mark)}}, AsOf: mark}
}

// snapFile: the checkpoint's file of a small Snap.
func snapFile(events, mark int) api.File {
	return file1(fmt.Sprintf("ckpt-%06d", events), string(plainEncode(small(events, mark))))
}

// shown: all that a disk keeps, as a text.
func shown(d *disk.Disk) string {
	s := d.State()
	text := fmt.Sprint(s.Capacity, s.Fuse, s.Down)
	for _, f := range s.Files {
		text += fmt.Sprintf("; %s %d %s", f.Name, f.Synced, f.Data)
	}
	return text
}

// names: of a disk's files, whether it is down or not.
func names(d *disk.Disk) string {
	var l []string
	for _, f := range d.State().Files {
		l = append(l, f.Name)
	}
	return strings.Join(l, " ")
}

// data: a file's bytes, whether the disk is down or not.
func data(d *disk.Disk, name string) string {
	for _, f := range d.State().Files {
		if f.Name == name {
			return string(f.Data)
		}
	}
	return "(none)"
}

func same[T comparable](t *testing.T, what string, got, want T) bool {
	t.Helper()
	if got != want {
		t.Errorf("%s: %v, want %v", what, got, want)
	}
	return got == want
}

func want(t *testing.T, what string, got, want api.Errno) {
	t.Helper()
	if got != want {
		t.Fatalf("%s: error %d, want %d", what, int(got), int(want))
	}
}

// wantNewest: Newest answers this Snap, or none.
func wantNewest(t *testing.T, what string, d *disk.Disk, most int, is bool, wanted api.Snap) {
	t.Helper()
	before := shown(d)
	s, ok, e := Newest(d, most)
	if ok != is || e != api.OK || !alike(s, wanted) {
		t.Errorf("%s: Newest(%d): %v, error %d, %+v; want %v, %+v", what, most, ok, int(e), s, is, wanted)
	}
	same(t, what+": the disk", shown(d), before)
}

func wantList(t *testing.T, what string, d *disk.Disk, events ...int) {
	t.Helper()
	before := shown(d)
	l, e := List(d)
	if e != api.OK || !slices.Equal(l, events) {
		t.Errorf("%s: List: %v, error %d, want %v", what, l, int(e), events)
	}
	same(t, what+": the disk", shown(d), before)
}

var nameForm = regexp.MustCompile(`^ckpt-(000[0-9]{3}|001000)$`)

// plainFiles: of a state the checkpoints' files, rising.
func plainFiles(s api.Disk) (l []api.File) {
	for _, f := range s.Files {
		if nameForm.MatchString(f.Name) {
			l = append(l, f)
		}
	}
	return l
}

func plainEvents(f api.File) int {
	n, _ := strconv.Atoi(f.Name[5:])
	return n
}

// plainWrite: the calls of P11.4, one behind the other.
func plainWrite(d *disk.Disk, s api.Snap) api.Errno {
	if s.Base.Events < 0 || s.Base.Events > 1000 {
		return api.ErrArg
	}
	b := plainEncode(s)
	if len(b) > api.MaxCkpt {
		return api.ErrLong
	}
	for i, call := range []func() api.Errno{
		func() api.Errno { return d.Remove("ckpt.tmp") },
		func() api.Errno { return d.Create("ckpt.tmp") },
		func() api.Errno { return d.Append("ckpt.tmp", b) },
		func() api.Errno { return d.Sync("ckpt.tmp") },
		func() api.Errno { return d.Rename("ckpt.tmp", fmt.Sprintf("ckpt-%06d", s.Base.Events)) },
	} {
		e := call()
		if e == api.OK || i == 0 && e == api.ErrNone {
			continue
		}
		if i >= 2 && e != api.ErrDown {
			d.Remove("ckpt.tmp")
		}
		return e
	}
	return api.OK
}

func plainList(d *disk.Disk) (l []int, e api.Errno) {
	if d.Down() {
		return nil, api.ErrDown
	}
	for _, f := range plainFiles(d.State()) {
		l = append(l, plainEvents(f))
	}
	return l, api.OK
}

func plainNewest(d *disk.Disk, most int) (best api.Snap, is bool, e api.Errno) {
	if d.Down() {
		return best, false, api.ErrDown
	}
	for _, f := range plainFiles(d.State()) {
		s, ok := plainDecode(f.Data)
		if n := plainEvents(f); ok && n <= most && s.Base.Events == n {
			best, is = s, true
		}
	}
	return best, is, api.OK
}

func plainTrim(d *disk.Disk, keep int) (int, api.Errno) {
	if keep < 0 {
		return 0, api.ErrArg
	}
	if d.Down() {
		return 0, api.ErrDown
	}
	n := 0
	before := d.State()
	for _, f := range before.Files {
		newer := 0
		for _, other := range plainFiles(before) {
			if other.Name > f.Name {
				newer++
			}
		}
		if f.Name != "ckpt.tmp" && (!nameForm.MatchString(f.Name) || newer < keep) {
			continue
		}
		if e := d.Remove(f.Name); e != api.OK {
			return 0, e
		}
		n++
	}
	return n, api.OK
}
