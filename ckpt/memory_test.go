package ckpt

import (
	"bytes"
	"reflect"
	"slices"
	"testing"

	"daybook/api"
	"daybook/disk"
)

// roomy: a Snap whose lists have room behind them, with something in it; and how all of it looks, the room too.
func roomy() (s api.Snap, look func() api.Snap) {
	s = full(3)
	var widen func(v reflect.Value)
	cut := true
	widen = func(v reflect.Value) {
		switch v.Kind() {
		case reflect.Struct:
			for i := range v.NumField() {
				widen(v.Field(i))
			}
		case reflect.Slice:
			for i := range v.Len() {
				widen(v.Index(i))
			}
			if cut {
				v.Set(v.Slice(0, v.Len()-1))
			} else {
				v.Set(v.Slice(0, v.Cap()))
			}
		}
	}
	widen(reflect.ValueOf(&s).Elem())
	return s, func() api.Snap {
		// All lists as far as they go, in a copy of the Snap; of the entries the lines behind.
		wide := s
		wide.Base.Entries = slices.Clone(s.Base.Entries[:cap(s.Base.Entries)])
		cut = false
		widen(reflect.ValueOf(&wide).Elem())
		return wide
	}
}

// What is handed in is not changed, its spare room neither.
func TestP11_1And11_4SnapsAreNotChanged(t *testing.T) {
	s, look := roomy()
	before, _ := plainDecode(plainEncode(look()))
	wanted := plainEncode(s)
	b := encoding(t, s)
	if !bytes.Equal(b, wanted) || !alike(look(), before) {
		t.Error("Encode has changed its Snap")
	}
	s.Base.Events = 7
	d := of(t)
	want(t, "Write", Write(d, s), api.OK)
	want(t, "Write", Write(d, s), api.OK)
	s.Base.Events = 1001
	want(t, "Write", Write(d, s), api.ErrArg)
	if !alike(look(), before) {
		t.Error("Write has changed its Snap")
	}
	long := sized(api.MaxCkpt + 1)
	long.Base.Entries, long.Allots = slices.Clone(s.Base.Entries), slices.Clone(s.Allots)
	kept := slices.Clone(long.Base.Entries)
	Encode(long)
	if !alike(long.Base.Entries, kept) || !alike(long.Allots, s.Allots) || len(long.Base.Keys) != 1 {
		t.Error("an Encode that is refused has changed its Snap")
	}
}

// Nothing is kept: what was written stays, whatever becomes of the Snap; what was answered stays, whatever becomes of the bytes.
func TestP11_8NothingIsKept(t *testing.T) {
	for _, s := range someSnaps(source(5), 50) {
		s.Base.Events = 12
		wanted, _ := plainDecode(plainEncode(s))
		b := encoding(t, s)
		d := of(t)
		want(t, "Write", Write(d, s), api.OK)
		clear(s.Base.Keys)
		clear(s.Base.Rows)
		clear(s.Base.Entries)
		clear(s.Balances)
		clear(s.Allots)
		if !bytes.Equal(b, plainEncode(wanted)) {
			t.Fatal("Encode's answer was changed with its Snap")
		}
		wantNewest(t, "the Snap cleared", d, 12, true, wanted)
		got, e := Decode(b)
		clear(b[:cap(b)])
		if e != api.OK || !alike(got, wanted) {
			t.Fatal("Decode's answer was changed with its bytes")
		}
	}
}

func TestP11_2BytesAreNotChanged(t *testing.T) {
	for _, s := range someSnaps(source(6), 30) {
		good := plainEncode(s)
		for _, b := range [][]byte{good, good[:len(good)-1], turned(good, 77, 1), turned(good, 8*len(good)-9, 1), plainSeal(append(good[16:len(good)-4:len(good)-4], 0)), plainSeal(good[16 : len(good)-5])} {
			wide := append(bytes.Clone(b), "behind"...)
			Decode(wide[:len(b)])
			if !bytes.Equal(wide[:len(b)], b) || string(wide[len(b):]) != "behind" {
				t.Fatal("Decode has changed its bytes")
			}
		}
	}
}

// span is the memory of a list, spare room too.
type span struct{ from, to uintptr }

// spans: of all lists of a value.
func spans(v reflect.Value) (l []span) {
	switch v.Kind() {
	case reflect.Struct:
		for i := range v.NumField() {
			l = append(l, spans(v.Field(i))...)
		}
	case reflect.Slice:
		for i := range v.Len() {
			l = append(l, spans(v.Index(i))...)
		}
		if v.Cap() > 0 {
			l = append(l, span{v.Pointer(), v.Pointer() + uintptr(v.Cap())*v.Type().Elem().Size()})
		}
	}
	return l
}

// No two lists share memory, of one answer or of several, nor with what was handed in.
func TestP11_8AnswersAreNobodyElses(t *testing.T) {
	s := full(4)
	s.Base.Events = 9
	b := encoding(t, s)
	again := encoding(t, s)
	d := of(t)
	want(t, "Write", Write(d, s), api.OK)
	want(t, "Write", Write(d, small(3, 1)), api.OK)
	one, _ := Decode(b)
	two, _ := Decode(b)
	three, _, _ := Newest(d, most)
	four, _, _ := Newest(d, most)
	list, _ := List(d)
	other, _ := List(d)
	var all []span
	for _, x := range []any{s, b, again, one, two, three, four, list, other} {
		all = append(all, spans(reflect.ValueOf(x))...)
	}
	if len(all) != 5*15+4 {
		t.Errorf("%d lists", len(all))
	}
	slices.SortFunc(all, func(a, b span) int {
		if a.from < b.from {
			return -1
		}
		return 1
	})
	for i := range all[1:] {
		if all[i].to > all[i+1].from {
			t.Errorf("two lists share memory: %x, %x", all[i], all[i+1])
		}
	}
	for _, x := range []api.Snap{one, two, three, four} {
		if !alike(x, s) {
			t.Error("it is another Snap")
		}
	}
	// What is written to an answer changes nothing on the disk.
	before := shown(d)
	clear(b[:cap(b)])
	clear(three.Base.Rows[:cap(three.Base.Rows)])
	clear(list[:cap(list)])
	same(t, "the disk", shown(d), before)
	wantNewest(t, "again", d, most, true, s)
	wantList(t, "again", d, 3, 9)
}

// A disk that is handed in is worked on, and nothing is known of it later.
func TestP11_5TwoDisks(t *testing.T) {
	one, _ := disk.New(1000)
	two, _ := disk.New(1000)
	want(t, "Write", Write(one, small(1, 1)), api.OK)
	want(t, "Write", Write(two, small(2, 2)), api.OK)
	wantList(t, "one", one, 1)
	wantList(t, "two", two, 2)
	wantNewest(t, "one", one, most, true, small(1, 1))
	if n, e := Trim(two, 0); n != 1 || e != api.OK {
		t.Errorf("Trim: %d, error %d", n, int(e))
	}
	wantList(t, "one", one, 1)
	wantList(t, "two", two)
}
