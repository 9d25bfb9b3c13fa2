package event

import (
	"bytes"
	"encoding/binary"
	"math"
	"slices"
	"testing"

	"daybook/api"
)

func decodes(t *testing.T, b []byte, want api.Event) {
	t.Helper()
	kept := bytes.Clone(b)
	e, why := Decode(b)
	if why != api.OK || !alike(e, want) {
		t.Fatalf("Decode(% x): %+v, error %d; want %+v", b, e, int(why), want)
	}
	if !bytes.Equal(b, kept) {
		t.Fatalf("Decode changed % x to % x", kept, b)
	}
}

func refusesBytes(t *testing.T, b []byte) {
	t.Helper()
	if e, why := Decode(b); why != api.ErrEvent || !alike(e, api.Event{}) {
		t.Fatalf("Decode(% x): %+v, error %d", b, e, int(why))
	}
}

func encoding(t *testing.T, e api.Event) []byte {
	t.Helper()
	b, why := Encode(e)
	if why != api.OK {
		t.Fatalf("Encode(%+v): error %d", e, int(why))
	}
	return b
}

// Each kind's bytes, written out by hand.
func TestP5_2And5_3EachKind(t *testing.T) {
	for _, x := range []struct {
		e api.Event
		b string
	}{
		{api.Event{Kind: api.KOpen, Day: 127, Account: "A", Type: api.Expense}, "\x01\x7f\x01A\x05"},
		{api.Event{Kind: api.KOpen, Day: 128, Account: "A:B"}, "\x01\x80\x01\x03A:B\x00"},
		{api.Event{Kind: api.KClose, Day: 16383, Account: "A:B"}, "\x02\xff\x7f\x03A:B"},
		{api.Event{Kind: api.KPost, Day: 16384, Key: "k", Memo: "m n", Lines: []api.Line{{Account: "A", Amount: -64, Tag: "t"}, {Account: "B", Amount: 64}}},
			"\x03\x80\x80\x01\x01k\x03m n\x02\x01A\x7f\x01t\x01B\x80\x01\x00"},
		{api.Event{Kind: api.KPost, Day: 1, Key: "k", Lines: []api.Line{{Account: "A", Amount: -1}, {Account: "B", Amount: 1}}}, "\x03\x01\x01k\x00\x02\x01A\x01\x00\x01B\x02\x00"},
		{api.Event{Kind: api.KVoid, Day: 2097151, Key: "k", Ref: "rr", Memo: "m"}, "\x04\xff\xff\x7f\x01k\x02rr\x01m"},
		{api.Event{Kind: api.KInvoice, Day: 2097152, Key: "k", Account: "A", Other: "BB", Due: api.MaxDay, Amount: 63, Memo: "m"},
			"\x05\x80\x80\x80\x01\x01k\x01A\x02BB\xdb\xf3\xde\x01\x7e\x01m"},
		{api.Event{Kind: api.KPay, Day: api.MaxDay, Key: "k", Account: "A", Other: "BB", Amount: 64}, "\x06\xdb\xf3\xde\x01\x01k\x01A\x02BB\x80\x01\x00"},
		{api.Event{Kind: api.KAllot, Day: 3, Key: "k", Ref: "p", Ref2: "i", Amount: 1}, "\x07\x03\x01k\x01p\x01i\x02"},
		{api.Event{Kind: api.KLock, Day: 1}, "\x08\x01"},
	} {
		if b := encoding(t, x.e); string(b) != x.b {
			t.Errorf("Encode(%+v): % x, want % x", x.e, b, x.b)
		}
		decodes(t, []byte(x.b), x.e)
	}
}

func TestP5_2Lengths(t *testing.T) {
	least, most := math.MaxInt, 0
	for _, e := range someEvents(source(10), 3000) {
		b := encoding(t, e)
		if !bytes.Equal(b, plainEncode(e)) {
			t.Fatalf("Encode(%+v): % x, want % x", e, b, plainEncode(e))
		}
		least, most = min(least, len(b)), max(most, len(b))
	}
	if least != 2 || most != 1660 {
		t.Errorf("%d to %d bytes", least, most)
	}
}

func TestP5_2EncodeRefuses(t *testing.T) {
	for _, e := range []api.Event{
		{}, {Kind: api.KLock}, {Kind: api.KLock, Day: api.MaxDay + 1}, {Kind: 9, Day: 1}, {Kind: api.KLock, Day: 1, Memo: "m"},
		{Kind: api.KAllot, Day: 1, Key: "a", Ref: "b", Ref2: "c", Amount: leastInt},
	} {
		if b, why := Encode(e); b != nil || why != api.ErrEvent {
			t.Errorf("Encode(%+v): % x, error %d", e, b, int(why))
		}
	}
}

// allotted: an allotment's bytes with its amount's put in.
func allotted(amount ...byte) []byte {
	return append([]byte{api.KAllot, 1, 1, 'a', 1, 'b', 1, 'c'}, amount...)
}

// posted: a posting's bytes with the first of two amounts put in.
func posted(amount ...byte) []byte {
	return slices.Concat([]byte{api.KPost, 1, 1, 'k', 0, 2, 1, 'A'}, amount, []byte{0, 1, 'B', 2, 0})
}

func TestP5_3Numbers(t *testing.T) {
	allot := api.Event{Kind: api.KAllot, Day: 1, Key: "a", Ref: "b", Ref2: "c"}
	post := api.Event{Kind: api.KPost, Day: 1, Key: "k"}
	for n := 1; n <= 10; n++ {
		// The least and the greatest number of n bytes that is a size.
		for _, number := range []uint64{1 << (7 * (n - 1)), 1<<min(7*n, 64) - 2} {
			if n == 1 && number == 1 {
				number = 2
			}
			b := binary.AppendUvarint(nil, number)
			if len(b) != n {
				t.Fatalf("%d has %d bytes", number, len(b))
			}
			allot.Amount = int64(number / 2)
			decodes(t, allotted(b...), allot)
			post.Lines = []api.Line{{Account: "A", Amount: int64(number / 2)}, {Account: "B", Amount: 1}}
			decodes(t, posted(b...), post)
			post.Lines[0].Amount = -int64(number / 2)
			decodes(t, posted(binary.AppendUvarint(nil, number-1)...), post)
		}
	}
	refusesBytes(t, allotted(0)) // no amount above 0
	refusesBytes(t, allotted(1)) // -1
	refusesBytes(t, posted(0))
	ones := bytes.Repeat([]byte{0xff}, 9)
	refusesBytes(t, allotted(append(ones, 1)...)) // 2^64 - 1: the least int64
	refusesBytes(t, posted(append(ones, 1)...))
	for _, last := range []byte{0, 2, 3, 0x7f, 0x80, 0x81, 0xff} { // not its one form, or above 2^64 - 1
		refusesBytes(t, allotted(append(bytes.Clone(ones), last)...))
		refusesBytes(t, posted(append(bytes.Clone(ones), last)...))
		refusesBytes(t, posted(append(bytes.Clone(ones), last, 1)...))
		refusesBytes(t, posted(append(bytes.Repeat([]byte{0x80}, 9), last, 0)...))
	}
	refusesBytes(t, allotted(bytes.Repeat([]byte{0xff}, 10)...))
	refusesBytes(t, allotted(bytes.Repeat([]byte{0x80}, 100)...))
}

// TestP5_3OneForm: each number of an event's bytes, with a 0 put behind its last digit.
func TestP5_3OneForm(t *testing.T) {
	for _, b := range [][]byte{
		{api.KLock, 0x81, 0}, {api.KLock, 0x80, 0}, {api.KLock, 0x81, 0x80, 0}, {api.KLock, 0xc6, 0x8c, 0xad, 0},
		{api.KLock, 0x80, 0x80, 0x80, 0x80, 0x80, 0x80, 0x80, 0x80, 0x80, 0}, {api.KLock, 0x81, 0x80, 0x80, 0x80, 0x80, 0x80, 0x80, 0x80, 0x80, 0},
		allotted(0x82, 0), allotted(0x82, 0x80, 0), allotted(0x80, 0), posted(0x82, 0), posted(0x81, 0),
		{api.KClose, 1, 0x81, 0, 'A'}, {api.KVoid, 1, 1, 'a', 1, 'b', 0x80, 0}, {api.KVoid, 1, 1, 'a', 0x81, 0, 'b', 0},
		{api.KInvoice, 1, 1, 'k', 1, 'A', 1, 'B', 0x82, 0, 2, 0},
	} {
		refusesBytes(t, b)
	}
	decodes(t, []byte{api.KInvoice, 1, 1, 'k', 1, 'A', 1, 'B', 2, 2, 0}, api.Event{Kind: api.KInvoice, Day: 1, Key: "k", Account: "A", Other: "B", Due: 2, Amount: 1})
}

// TestP5_3NoDays: numbers that are no days, those too that would be one if they were cut to fewer bits.
func TestP5_3NoDays(t *testing.T) {
	for _, n := range []uint64{0, api.MaxDay + 1, 1<<31 + 1, 1<<32 + 1, 1<<63 + 1, math.MaxUint64} {
		day := binary.AppendUvarint(nil, n)
		refusesBytes(t, append([]byte{api.KLock}, day...))
		refusesBytes(t, slices.Concat([]byte{api.KInvoice, 1, 1, 'k', 1, 'A', 1, 'B'}, day, []byte{2, 0}))
	}
	decodes(t, append([]byte{api.KLock}, binary.AppendUvarint(nil, api.MaxDay)...), api.Event{Kind: api.KLock, Day: api.MaxDay})
}

// TestP5_3Lengths: texts that tell more bytes than there are, or than they may have; Lines too.
func TestP5_3Lengths(t *testing.T) {
	for _, n := range []uint64{2, 3, 127, 128, 1 << 31, 1<<32 + 1, math.MaxInt64, 1 << 63, 1<<63 + 1, math.MaxUint64} {
		length := binary.AppendUvarint(nil, n)
		refusesBytes(t, slices.Concat([]byte{api.KClose, 1}, length, []byte("A")))
		refusesBytes(t, slices.Concat([]byte{api.KVoid, 1, 1, 'a', 1, 'b'}, length, []byte("m")))
		refusesBytes(t, slices.Concat([]byte{api.KPost, 1, 1, 'k', 0, 2, 1, 'A', 2, 0, 1, 'A', 2}, length, []byte("t")))
	}
	behind := []byte("AAAAAAAA")
	refusesBytes(t, append([]byte{api.KClose, 1, 5}, behind...)[:7]) // more stands behind b's end, and is not b
	line := []byte{1, 'A', 2, 0}
	for n := range 256 {
		b := append([]byte{api.KPost, 1, 1, 'k', 0, byte(n)}, bytes.Repeat(line, n)...)
		if n < 2 || n > api.MaxLines {
			refusesBytes(t, b)
			continue
		}
		decodes(t, b, api.Event{Kind: api.KPost, Day: 1, Key: "k", Lines: slices.Repeat([]api.Line{{Account: "A", Amount: 1}}, n)})
		refusesBytes(t, append(b, line...))
		refusesBytes(t, b[:len(b)-len(line)])
	}
}

// TestP5_3NotValid: bytes that say an event, but none that is valid.
func TestP5_3NotValid(t *testing.T) {
	for _, e := range []api.Event{
		{Kind: api.KOpen, Day: 1, Account: "A"}, {Kind: api.KOpen, Day: 1, Account: "A", Type: 6}, {Kind: api.KOpen, Day: 1, Account: "A", Type: 255}, {Kind: api.KOpen, Day: 1, Account: "A:B", Type: 1},
		{Kind: api.KClose, Day: 1, Account: "a"}, {Kind: api.KClose, Day: 1}, {Kind: api.KClose, Day: 1, Account: longAccount + "x"}, {Kind: api.KClose, Day: 1, Account: "A\xff"},
		{Kind: api.KVoid, Day: 1, Key: "k"}, {Kind: api.KVoid, Day: 1, Ref: "k"}, {Kind: api.KVoid, Day: 1, Key: "k", Ref: "r", Memo: longMemo() + "m"}, {Kind: api.KVoid, Day: 1, Key: "k", Ref: "r", Memo: `"`}, {Kind: api.KVoid, Day: 1, Key: longKey + "k", Ref: "r"},
		{Kind: api.KInvoice, Day: 2, Key: "k", Account: "A", Other: "B", Due: 1, Amount: 1}, {Kind: api.KInvoice, Day: 2, Key: "k", Account: "A", Other: "A", Due: 2, Amount: 1}, {Kind: api.KInvoice, Day: 2, Key: "k", Account: "A", Other: "B", Due: 2, Amount: -1},
		{Kind: api.KPay, Day: 2, Key: "k", Account: "A", Other: "A", Amount: 1}, {Kind: api.KPay, Day: 2, Key: "k", Account: "A", Other: "B"}, {Kind: api.KPay, Day: 2, Key: "k", Account: "A", Other: "B", Amount: leastInt},
		{Kind: api.KPost, Day: 1, Key: "k", Lines: []api.Line{{Account: "A", Amount: 1}, {Account: "A", Amount: 0}}}, {Kind: api.KPost, Day: 1, Key: "k", Lines: []api.Line{{Account: "A", Amount: 1}, {Account: "A", Amount: leastInt}}}, {Kind: api.KPost, Day: 1, Key: "k", Lines: []api.Line{{Account: "A", Amount: 1}, {Account: "A", Amount: 1, Tag: "T"}}}, {Kind: api.KPost, Day: 1, Key: "k", Lines: []api.Line{{Account: "A", Amount: 1}, {Account: "A", Amount: 1, Tag: longTag + "t"}}},
	} {
		refusesBytes(t, plainEncode(e))
	}
	for _, kind := range []byte{0, 9, 10, 128, 129, 136, 255} {
		refusesBytes(t, []byte{kind})
		refusesBytes(t, []byte{kind, 1})
		refusesBytes(t, []byte{kind, 1, 1, 'A'})
	}
}

func TestP5_6ThereAndBack(t *testing.T) {
	told := map[string]api.Event{}
	for _, e := range someEvents(source(11), 5000) {
		b := encoding(t, e)
		decodes(t, b, e)
		if other, was := told[string(b)]; was && !alike(other, e) {
			t.Fatalf("% x are the bytes of %+v and of %+v", b, e, other)
		}
		told[string(b)] = e
	}
}

// checkBytes holds Decode of any bytes against the plain one, and Encode's way back.
func checkBytes(t *testing.T, b []byte) bool {
	t.Helper()
	want, good := plainDecode(b)
	if !good {
		refusesBytes(t, b)
		return false
	}
	decodes(t, b, want)
	if back := encoding(t, want); !bytes.Equal(back, b) {
		t.Fatalf("Encode(%+v): % x, but it was decoded from % x", want, back, b)
	}
	return true
}

// TestP5_6EveryByte: each byte of an event's bytes changed to each other one.
func TestP5_6EveryByte(t *testing.T) {
	taken := 0
	for _, e := range someEvents(source(12), 0) {
		b := encoding(t, e)
		for at := range min(len(b), 90) {
			for value := range 256 {
				changed := bytes.Clone(b)
				changed[at] = byte(value)
				if checkBytes(t, changed) {
					taken++
				}
			}
		}
	}
	if taken < 10000 {
		t.Errorf("only %d were taken", taken)
	}
}

func TestP5_6AnyBytes(t *testing.T) {
	r := source(13)
	few := []byte{0, 1, 1, 1, 2, 2, 3, 8, 'A', 'B', 'a', 'k', 0x7f, 0x80, 0x81, 0xff}
	taken := 0
	for range 150000 {
		b := make([]byte, r.IntN(24))
		for i := range b {
			b[i] = few[r.IntN(len(few))]
		}
		if len(b) > 0 {
			b[0] = byte(r.IntN(10))
		}
		if checkBytes(t, b) {
			taken++
		}
	}
	for range 30000 {
		b := plainEncode(anyEvent(r))
		for range 1 + r.IntN(3) {
			at := r.IntN(len(b))
			switch r.IntN(3) {
			case 0:
				b[at] ^= 1 << r.IntN(8)
			case 1:
				b = slices.Insert(b, at, few[r.IntN(len(few))])
			case 2:
				b = append(slices.Delete(b, at, at+1), 1)
			}
		}
		if checkBytes(t, b) {
			taken++
		}
	}
	if taken < 1500 {
		t.Errorf("only %d were taken", taken)
	}
}

func TestP5_8Cut(t *testing.T) {
	for _, e := range someEvents(source(14), 300) {
		b := encoding(t, e)
		for n := range b {
			refusesBytes(t, b[:n])
			refusesBytes(t, bytes.Clone(b[:n]))
		}
	}
}

func TestP5_8Behind(t *testing.T) {
	events := someEvents(source(15), 100)
	for i, e := range events {
		b := encoding(t, e)
		for value := range 256 {
			refusesBytes(t, append(bytes.Clone(b), byte(value)))
			refusesBytes(t, append(bytes.Clone(b), 0, byte(value)))
		}
		refusesBytes(t, append(bytes.Clone(b), b...))
		refusesBytes(t, append(bytes.Clone(b), encoding(t, events[(i+1)%len(events)])...))
		refusesBytes(t, append(bytes.Clone(b), make([]byte, 4000)...))
	}
}
