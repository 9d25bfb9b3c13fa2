package ckpt

import (
	"bytes"
	"fmt"
	"math"
	"math/big"
	"reflect"
	"runtime"
	"slices"
	"strings"
	"testing"

	"daybook/api"
)

func encoding(t *testing.T, s api.Snap) []byte {
	t.Helper()
	b, e := Encode(s)
	if e != api.OK {
		t.Fatalf("Encode: error %d", int(e))
	}
	return b
}

func decodes(t *testing.T, what string, b []byte, want api.Snap) {
	t.Helper()
	if s, e := Decode(b); e != api.OK || !alike(s, want) {
		t.Fatalf("%s: Decode(% .200x): error %d, %.2000v; want %.2000v", what, b, int(e), s, want)
	}
}

func refuses(t *testing.T, what string, b []byte, why api.Errno) {
	t.Helper()
	if s, e := Decode(b); e != why || !reflect.ValueOf(s).IsZero() {
		t.Fatalf("%s: Decode(% .200x): error %d, %.2000v; want error %d", what, b, int(e), s, int(why))
	}
}

func TestP11_1And11_2ByHand(t *testing.T) {
	if b := encoding(t, byHand()); string(b) != bytesByHand {
		t.Errorf("% x, want % x", b, bytesByHand)
	}
	decodes(t, "by hand", []byte(bytesByHand), byHand())
	const zero = "daybook1\x0e\x00\x00\x00\x17\x48\x8a\xd3" + "\x00\x00\x00\x00\x00\x00\x00\x00\x00\x00\x00\x00\x00\x00" + "\xc7\x79\xbb\xd1"
	if b := encoding(t, api.Snap{}); string(b) != zero {
		t.Errorf("% x, want % x", b, zero)
	}
	decodes(t, "the zero Snap", []byte(zero), api.Snap{})
}

// The four ends of ints: -2n - 1 of the least int64 is 2^64 - 1.
func TestP11_1Ints(t *testing.T) {
	for n, want := range map[int]string{
		0: "\x00", -1: "\x01", 1: "\x02", -64: "\x7f", 64: "\x80\x01", -65: "\x81\x01",
		math.MaxInt64:     "\xfe\xff\xff\xff\xff\xff\xff\xff\xff\x01",
		math.MinInt64:     "\xff\xff\xff\xff\xff\xff\xff\xff\xff\x01",
		math.MinInt64 + 1: "\xfd\xff\xff\xff\xff\xff\xff\xff\xff\x01",
	} {
		body := slices.Concat([]byte(want), make([]byte, 13))
		if b := encoding(t, api.Snap{Base: api.Base{Events: n}}); !bytes.Equal(b, plainSeal(body)) {
			t.Errorf("%d: % x", n, b)
		}
		decodes(t, fmt.Sprint(n), plainSeal(body), api.Snap{Base: api.Base{Events: n}})
	}
}

func TestP11_1AsTheModel(t *testing.T) {
	for i, s := range someSnaps(source(1), 1500) {
		if b, wanted := encoding(t, s), plainEncode(s); !bytes.Equal(b, wanted) {
			t.Fatalf("Snap %d: % .300x, want % .300x", i, b, wanted)
		}
	}
}

// Nil and empty lists have the same bytes.
func TestP11_1NilAndEmpty(t *testing.T) {
	bare := api.Snap{Base: api.Base{Entries: make([]api.Entry, 2)}}
	if a, b := encoding(t, emptied()), encoding(t, bare); !bytes.Equal(a, b) {
		t.Errorf("% x, % x", a, b)
	}
	if a, b := encoding(t, allSame(0, "", false, 0)), encoding(t, api.Snap{}); !bytes.Equal(a, b) || len(a) != 34 {
		t.Errorf("% x, % x", a, b)
	}
}

// sized: a Snap whose checkpoint has so many bytes, most of them a key's.
func sized(n int) api.Snap {
	const rest = 34 + 3 // the zero Snap's, and the count of the key's bytes
	return api.Snap{Base: api.Base{Keys: []string{strings.Repeat("k", n-rest)}}}
}

// The last thing that has room, and the first that has none, of each sort.
func TestP11_1Long(t *testing.T) {
	for n := api.MaxCkpt - 12; n <= api.MaxCkpt+2; n++ {
		s := sized(n)
		if got := len(plainEncode(s)); got != n {
			t.Fatalf("%d bytes, not %d", got, n)
		}
		checkLong(t, "a key", s)
		for what, more := range map[string]func(s *api.Snap){
			"AsOf 64":         func(s *api.Snap) { s.AsOf = 64 },
			"AsOf, the least": func(s *api.Snap) { s.AsOf = least },
			"Events":          func(s *api.Snap) { s.Base.Events = 1000 },
			"a flag":          func(s *api.Snap) { s.Base.Accounts = make([]api.Account, 1) },
			"a flag set":      func(s *api.Snap) { s.Base.Accounts = []api.Account{{Closed: true}} },
			"a text":          func(s *api.Snap) { s.Balances = []api.Balance{{Account: "twelve bytes"}} },
			"an amount":       func(s *api.Snap) { s.Balances = []api.Balance{{Own: math.MinInt64}} },
			"another key":     func(s *api.Snap) { s.Base.Keys = append(s.Base.Keys, "") },
			"a row":           func(s *api.Snap) { s.Base.Rows = make([]api.Posting, 1) },
			"lines":           func(s *api.Snap) { s.Base.Entries = []api.Entry{{Lines: make([]api.Line, 2)}} },
			"an allotment":    func(s *api.Snap) { s.Allots = make([]api.Allot, 1) },
			"128 keys": func(s *api.Snap) {
				s.Base.Keys = append(s.Base.Keys, make([]string, 127)...)
				s.Base.Keys[0] = s.Base.Keys[0][127:]
			},
		} {
			s := sized(n)
			more(&s)
			checkLong(t, what, s)
		}
	}
}

// checkLong: Encode answers as the model's length says.
func checkLong(t *testing.T, what string, s api.Snap) {
	t.Helper()
	wanted := plainEncode(s)
	b, e := Encode(s)
	if len(wanted) > api.MaxCkpt {
		if b != nil || e != api.ErrLong {
			t.Errorf("%s: %d bytes, error %d, want ErrLong for %d", what, len(b), int(e), len(wanted))
		}
		refuses(t, what, wanted, api.ErrLong)
		return
	}
	if e != api.OK || !bytes.Equal(b, wanted) {
		t.Errorf("%s: %d bytes, error %d, want %d", what, len(b), int(e), len(wanted))
	}
	if len(wanted) > api.MaxCkpt-2 {
		decodes(t, what, wanted, s)
	}
}

// As long as can be, of each list.
func TestP11_1LongLists(t *testing.T) {
	room := api.MaxCkpt - 20
	for what, s := range map[string]func(n int) api.Snap{
		"keys":     func(n int) api.Snap { return api.Snap{Base: api.Base{Keys: make([]string, n)}} },
		"accounts": func(n int) api.Snap { return api.Snap{Base: api.Base{Accounts: make([]api.Account, n)}} },
		"rows":     func(n int) api.Snap { return api.Snap{Base: api.Base{Rows: make([]api.Posting, n)}} },
		"entries":  func(n int) api.Snap { return api.Snap{Base: api.Base{Entries: make([]api.Entry, n)}} },
		"lines": func(n int) api.Snap {
			return api.Snap{Base: api.Base{Entries: []api.Entry{{Lines: make([]api.Line, n)}}}}
		},
		"invoices": func(n int) api.Snap { return api.Snap{Base: api.Base{Invoices: make([]api.Claim, n)}} },
		"payments": func(n int) api.Snap { return api.Snap{Base: api.Base{Payments: make([]api.Claim, n)}} },
		"allots":   func(n int) api.Snap { return api.Snap{Base: api.Base{Allots: make([]api.Allot, n)}} },
		"balances": func(n int) api.Snap { return api.Snap{Balances: make([]api.Balance, n)} },
		"days":     func(n int) api.Snap { return api.Snap{Days: make([]api.DayRow, n)} },
		"claims":   func(n int) api.Snap { return api.Snap{Claims: make([]api.Claim, n)} },
		"allots 2": func(n int) api.Snap { return api.Snap{Allots: make([]api.Allot, n)} },
	} {
		one := len(bodyOf(s(2))) - len(bodyOf(s(1)))
		body := bodyOf(s(1))
		at := bytes.LastIndexByte(body, 1) // the list's count; all behind it is zeros
		n := (room - (len(body) - one + 2)) / one
		b := encoding(t, s(n))
		if wanted := plainSeal(slices.Concat(body[:at], count(n), make([]byte, n*one+len(body)-at-1-one))); !bytes.Equal(b, wanted) || len(b) <= api.MaxCkpt-one {
			t.Errorf("%s: %d bytes, want %d", what, len(b), len(wanted))
		}
		decodes(t, what, b, s(n))
		for _, more := range []int{n + 1, n + 2, 2 * n} {
			if b, e := Encode(s(more)); b != nil || e != api.ErrLong {
				t.Errorf("%d %s: %d bytes, error %d", more, what, len(b), int(e))
			}
		}
	}
}

// One text and one list that stand in a Snap very often are not written all.
func TestP11_1FarTooLong(t *testing.T) {
	keys := slices.Repeat([]string{strings.Repeat("k", 1<<20)}, 1<<20)
	entries := slices.Repeat([]api.Entry{{Lines: make([]api.Line, 1<<20)}}, 1<<20)
	for _, s := range []api.Snap{{Base: api.Base{Keys: keys}}, {Base: api.Base{Entries: entries}}, {Base: api.Base{Keys: keys, Entries: entries}}} {
		var b []byte
		var e api.Errno
		if taken := memory(100<<20, func() { b, e = Encode(s) }); taken > 100<<20 {
			t.Errorf("%d bytes of memory", taken)
		}
		if b != nil || e != api.ErrLong {
			t.Errorf("%d bytes, error %d", len(b), int(e))
		}
	}
}

// memory: how many bytes of it something takes. It is done anew where they are more than may be: something else may have taken some as well.
func memory(may int, do func()) (taken int) {
	for range 3 {
		var before, after runtime.MemStats
		runtime.ReadMemStats(&before)
		do()
		runtime.ReadMemStats(&after)
		taken = int(after.TotalAlloc - before.TotalAlloc)
		if taken <= may {
			break
		}
	}
	return taken
}

func TestP11_2Long(t *testing.T) {
	decodes(t, "the longest", plainEncode(sized(api.MaxCkpt)), sized(api.MaxCkpt))
	for what, b := range map[string][]byte{
		"one more":             plainEncode(sized(api.MaxCkpt + 1)),
		"twice as many":        plainEncode(sized(2 * api.MaxCkpt)),
		"one zero more":        make([]byte, api.MaxCkpt+1),
		"one put behind":       append(plainEncode(sized(api.MaxCkpt)), 0),
		"ones":                 bytes.Repeat([]byte{0xff}, api.MaxCkpt+9),
		"a small one, filled ": append(plainEncode(full(2)), make([]byte, api.MaxCkpt)...),
	} {
		refuses(t, what, b, api.ErrLong)
	}
	refuses(t, "as many zeros as may be", make([]byte, api.MaxCkpt), api.ErrCkpt)
	refuses(t, "no bytes", nil, api.ErrCkpt)
	refuses(t, "no bytes", []byte{}, api.ErrCkpt)
	for n := range 40 {
		refuses(t, "zeros", make([]byte, n), api.ErrCkpt)
		refuses(t, "a beginning", plainSeal(make([]byte, 14))[:min(n, 33)], api.ErrCkpt)
	}
	refuses(t, "no body", plainSeal(nil), api.ErrCkpt)
}

// Everything is right but one of the sums.
func TestP11_2Sums(t *testing.T) {
	for _, s := range []api.Snap{{}, byHand(), full(2)} {
		good := plainEncode(s)
		decodes(t, "as it is", good, s)
		for _, at := range []int{12, len(good) - 4} {
			for _, sum := range []string{"\x00\x00\x00\x00", "\xff\xff\xff\xff", "abcd", string([]byte{good[at+3], good[at+2], good[at+1], good[at]}),
				string([]byte{^good[at], ^good[at+1], ^good[at+2], ^good[at+3]}), string([]byte{good[at] + 1, good[at+1], good[at+2], good[at+3]})} {
				b := bytes.Clone(good)
				copy(b[at:], sum)
				refuses(t, fmt.Sprintf("the sum at %d", at), b, api.ErrCkpt)
			}
		}
		swapped := slices.Concat(good[:12], good[len(good)-4:], good[16:len(good)-4], good[12:16])
		refuses(t, "the sums of one another", swapped, api.ErrCkpt)
	}
}

// A length that is another, with the right sum.
func TestP11_2Lengths(t *testing.T) {
	for _, s := range []api.Snap{{}, byHand(), full(2)} {
		body := bodyOf(s)
		n := len(body)
		for _, told := range []int{0, 1, n - 4, n - 1, n + 1, n + 4, n + 16, n + 20, 2 * n, n << 8, n << 16, n << 24, n + 1<<16, n + 1<<31, n ^ 1<<20, 1<<32 - 1, api.MaxCkpt, -n} {
			b := slices.Concat(headed("daybook1", told), plainSeal(body)[16:])
			refuses(t, fmt.Sprintf("length %d of %d", told, n), b, api.ErrCkpt)
		}
		decodes(t, "the right length", slices.Concat(headed("daybook1", n), plainSeal(body)[16:]), s)
	}
}

// Another beginning, with the right sum.
func TestP11_2Beginnings(t *testing.T) {
	for _, s := range []api.Snap{{}, byHand(), full(2)} {
		body := bodyOf(s)
		for _, mark := range []string{"daybook2", "daybook0", "Daybook1", "DAYBOOK1", "daybook\x01", " aybook1", "daybook ", "\x00\x00\x00\x00\x00\x00\x00\x00", "1koobyad", "daybook", "daybook11", ""} {
			b := slices.Concat(headed(mark, len(body)), plainSeal(body)[16:])
			refuses(t, "beginning "+mark, b, api.ErrCkpt)
		}
		for at := range 8 {
			for value := range 256 {
				mark := []byte("daybook1")
				mark[at] = byte(value)
				b := slices.Concat(headed(string(mark), len(body)), plainSeal(body)[16:])
				if string(mark) == "daybook1" {
					decodes(t, "the right beginning", b, s)
				} else {
					refuses(t, fmt.Sprintf("beginning %q", mark), b, api.ErrCkpt)
				}
			}
		}
	}
}

// with: a body's pieces with one of them replaced.
func with(l []piece, at int, b ...byte) []byte {
	l = slices.Clone(l)
	l[at].bytes = b
	return plainSeal(joint(l))
}

// Each count of a body that is not in its one form, or beyond 2^64 - 1.
func TestP11_2Counts(t *testing.T) {
	beyond := digits(new(big.Int).Lsh(big.NewInt(1), 64))
	for _, s := range []api.Snap{{}, byHand(), full(2), allSame(math.MinInt64, "x", true, 1), allSame(64, strings.Repeat("x", 130), false, 1)} {
		l := piecesOf(s)
		for at, p := range l {
			if p.what == 'b' || p.what == 'f' {
				continue
			}
			longer := bytes.Clone(p.bytes)
			for len(longer) < 12 {
				longer[len(longer)-1] |= 0x80
				longer = append(longer, 0)
				refuses(t, fmt.Sprintf("piece %d in another form", at), with(l, at, longer...), api.ErrCkpt)
			}
			refuses(t, fmt.Sprintf("piece %d: 2^64", at), with(l, at, beyond...), api.ErrCkpt)
			for _, more := range []int64{1, 5, 127, 1 << 40} { // what it is if it is cut to 64 bits
				n := new(big.Int).Add(new(big.Int).Lsh(big.NewInt(more), 64), toNumber(p.bytes))
				refuses(t, fmt.Sprintf("piece %d: with %d times 2^64", at, more), with(l, at, digits(n)...), api.ErrCkpt)
			}
			refuses(t, fmt.Sprintf("piece %d without an end", at), with(l, at, bytes.Repeat([]byte{0x80}, 300)...), api.ErrCkpt)
			refuses(t, fmt.Sprintf("piece %d without an end", at), with(l, at, bytes.Repeat([]byte{0xff}, 300)...), api.ErrCkpt)
		}
	}
}

// toNumber: of a count's bytes.
func toNumber(b []byte) *big.Int {
	n := new(big.Int)
	for _, digit := range slices.Backward(b) {
		n.Lsh(n, 7).Add(n, big.NewInt(int64(digit%128)))
	}
	return n
}

func TestP11_2Flags(t *testing.T) {
	s := api.Snap{Base: api.Base{Accounts: make([]api.Account, 3)}}
	l := piecesOf(s)
	flags := 0
	for at, p := range l {
		if p.what != 'f' {
			continue
		}
		for value := range 256 {
			wanted := api.Snap{Base: api.Base{Accounts: make([]api.Account, 3)}}
			wanted.Base.Accounts[flags].Closed = value == 1
			if value < 2 {
				decodes(t, "a flag", with(l, at, byte(value)), wanted)
				continue
			}
			refuses(t, fmt.Sprintf("the flag %d", value), with(l, at, byte(value)), api.ErrCkpt)
			refuses(t, fmt.Sprintf("the flag %d 0", value), with(l, at, byte(value), 0), api.ErrCkpt)
			refuses(t, fmt.Sprintf("the flag %d 1", value), with(l, at, byte(value), 1), api.ErrCkpt)
		}
		flags++
	}
	same(t, "flags", flags, 3)
}

// Bodies with something missing at every place, and with something left over.
func TestP11_2MissingAndLeft(t *testing.T) {
	for _, s := range []api.Snap{{}, byHand(), full(1), full(2), allSame(math.MinInt64, "xy", true, 1)} {
		body := bodyOf(s)
		for n := range body {
			refuses(t, fmt.Sprintf("a body of %d bytes", n), plainSeal(body[:n]), api.ErrCkpt)
		}
		for value := range 256 {
			refuses(t, "a byte left over", plainSeal(append(bytes.Clone(body), byte(value))), api.ErrCkpt)
		}
		refuses(t, "a body left over", plainSeal(append(bytes.Clone(body), body...)), api.ErrCkpt)
		refuses(t, "zeros left over", plainSeal(append(bytes.Clone(body), make([]byte, 5000)...)), api.ErrCkpt)
		l := piecesOf(s)
		for at, p := range l { // a piece gone, or twice there: as the model says of it
			checkBody(t, joint(slices.Delete(slices.Clone(l), at, at+1)))
			checkBody(t, joint(slices.Insert(slices.Clone(l), at, p)))
		}
	}
}

// checkBody holds Decode of a body's checkpoint against the plain one, and the way back.
func checkBody(t *testing.T, body []byte) bool {
	t.Helper()
	b := plainSeal(body)
	s, good := plainDecode(b)
	if !good {
		refuses(t, "a body", b, api.ErrCkpt)
		return false
	}
	decodes(t, "a body", b, s)
	if back := encoding(t, s); !bytes.Equal(back, b) {
		t.Fatalf("Encode: % x, but it was decoded from % x", back, b)
	}
	return true
}

// Counts of lists and texts that tell more than there is.
func TestP11_2CountsOfMore(t *testing.T) {
	for _, s := range []api.Snap{{}, byHand(), full(2)} {
		l := piecesOf(s)
		for at, p := range l {
			if p.what != 'l' && p.what != 't' {
				continue
			}
			for _, n := range []uint64{200, 1 << 14, 1 << 20, 1 << 31, 1<<32 + 1, 1 << 40, 1 << 56, 1<<63 - 1, 1 << 63, 1<<63 + 1, 1<<64 - 1} {
				b := with(l, at, digits(new(big.Int).SetUint64(n))...)
				if _, good := plainDecode(b); good {
					t.Fatalf("piece %d may be %d", at, n)
				}
				var e api.Errno
				taken := memory(100*len(b), func() { _, e = Decode(b) })
				if e != api.ErrCkpt || taken > 100*len(b) {
					t.Errorf("piece %d, %d: error %d, %d bytes of memory for %d", at, n, int(e), taken, len(b))
				}
			}
		}
	}
}

// Every count of a list, far too great or just as great as it can be, ahead of many bytes: what memory is taken.
func TestP11_2Memory(t *testing.T) {
	worst := 0
	check := func(what string, body []byte) {
		b := plainSeal(body)
		taken := memory(60*len(b), func() { Decode(b) })
		if taken > 60*len(b) { // some hundred times are promised
			t.Errorf("%s: %d bytes of memory for %d", what, taken, len(b))
		}
		worst = max(worst, taken/len(b))
	}
	for _, s := range []api.Snap{{}, full(1)} {
		l := piecesOf(s)
		for at, p := range l {
			if p.what != 'l' && p.what != 't' {
				continue
			}
			ahead := joint(l[:at])
			for _, n := range []int{1 << 13, api.MaxCkpt - 20 - len(ahead) - 10} {
				for _, told := range []int{n, n / 3, n / 4, n / 5, n / 9, 1 << 62} {
					body := slices.Concat(ahead, count(told), make([]byte, n))
					check(fmt.Sprintf("piece %d tells %d of %d zeros", at, told, n), body)
				}
				body := slices.Concat(ahead, count(n/9), bytes.Repeat([]byte{0xff}, n))
				check(fmt.Sprintf("piece %d tells %d of %d ones", at, n/9, n), body)
			}
		}
	}
	// A list whose first part has a list, both as great as can be.
	n := api.MaxCkpt - 60
	for _, lines := range []int{n / 3, n / 4, n / 9} {
		body := slices.Concat(make([]byte, 4), count(n/4), make([]byte, 2), count(lines), bytes.Repeat([]byte{0}, n))
		check("entries and lines", body)
	}
	// Texts of one and of two bytes, as many as can be.
	check("keys of one byte", slices.Concat([]byte{0}, count(n/2), bytes.Repeat([]byte("\x01k"), n/2), make([]byte, 12)))
	check("keys of two bytes", slices.Concat([]byte{0}, count(n/3), bytes.Repeat([]byte("\x02kk"), n/3), make([]byte, 12)))
	check("entries of a line", slices.Concat(make([]byte, 4), count(n/7), bytes.Repeat([]byte{0, 0, 1, 0, 0, 0, 0}, n/7), make([]byte, 9)))
	t.Logf("at most %d times", worst)
}

// Any bodies: those of Snaps with pieces and bytes changed.
func TestP11_2AndP11_8AnyBodies(t *testing.T) {
	r := source(2)
	few := []byte{0, 1, 1, 2, 2, 3, 4, 'A', 0x7f, 0x80, 0x81, 0xff}
	taken := 0
	for range 40000 {
		body := make([]byte, 10+r.IntN(40))
		for i := range body {
			if r.IntN(4) == 0 {
				body[i] = few[r.IntN(len(few))]
			}
		}
		if checkBody(t, body) {
			taken++
		}
	}
	for range 15000 {
		body := bodyOf(anySnap(r, 2))
		for range r.IntN(4) {
			at := r.IntN(len(body))
			switch r.IntN(3) {
			case 0:
				body[at] ^= 1 << r.IntN(8)
			case 1:
				body = slices.Insert(body, at, few[r.IntN(len(few))])
			case 2:
				body = append(slices.Delete(body, at, at+1), 0)
			}
		}
		if checkBody(t, body) {
			taken++
		}
	}
	if taken < 2500 || taken > 50000 {
		t.Errorf("%d were taken", taken)
	}
}

// Each byte of a body changed to each other one.
func TestP11_8EveryByte(t *testing.T) {
	taken := 0
	for _, s := range []api.Snap{{}, byHand(), full(1)} {
		body := bodyOf(s)
		for at := range body {
			for value := range 256 {
				changed := bytes.Clone(body)
				changed[at] = byte(value)
				if checkBody(t, changed) {
					taken++
				}
			}
		}
	}
	if taken < 3000 {
		t.Errorf("only %d were taken", taken)
	}
}

func TestP11_8ThereAndBack(t *testing.T) {
	told := map[string]api.Snap{}
	for _, s := range someSnaps(source(3), 2000) {
		b := encoding(t, s)
		decodes(t, "there and back", b, s)
		if other, was := told[string(b)]; was && !alike(other, s) {
			t.Fatalf("% x are the bytes of two Snaps", b)
		}
		told[string(b)] = s
	}
}

// A Snap with any one field another has other bytes.
func TestP11_8EachField(t *testing.T) {
	good := string(encoding(t, full(2)))
	seen := map[string]int{good: -1}
	changed := 0
	for at := 0; ; at++ {
		s := full(2)
		left := at
		if !changeOne(reflect.ValueOf(&s).Elem(), &left) {
			break
		}
		changed++
		b := encoding(t, s)
		if other, was := seen[string(b)]; was {
			t.Fatalf("change %d has the bytes of change %d", at, other)
		}
		seen[string(b)] = at
		decodes(t, fmt.Sprint("change ", at), b, s)
	}
	same(t, "changes", changed, 122) // 109 fields, and the lengths of eleven lists and of two entries' Lines
}

// changeOne changes the value number left, or the length of a list; false, if there are not so many.
func changeOne(v reflect.Value, left *int) bool {
	switch v.Kind() {
	case reflect.Struct:
		for i := range v.NumField() {
			if changeOne(v.Field(i), left) {
				return true
			}
		}
		return false
	case reflect.Slice:
		for i := range v.Len() {
			if changeOne(v.Index(i), left) {
				return true
			}
		}
	}
	*left--
	if *left >= 0 {
		return false
	}
	switch v.Kind() {
	case reflect.Slice:
		v.Set(v.Slice(0, 1))
	case reflect.Bool:
		v.SetBool(!v.Bool())
	case reflect.String:
		v.SetString(v.String() + "x")
	default:
		v.SetInt(-v.Int())
	}
	return true
}
