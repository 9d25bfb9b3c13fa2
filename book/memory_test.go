package book

import (
	"reflect"
	"slices"
	"testing"

	"daybook/api"
)

// scratch writes over every list that can be reached, its spare room too.
func scratch(v reflect.Value) {
	switch v.Kind() {
	case reflect.Struct:
		for i := range v.NumField() {
			scratch(v.Field(i))
		}
	case reflect.Slice:
		v = v.Slice(0, v.Cap())
		for i := range v.Len() {
			scratch(v.Index(i))
			v.Index(i).SetZero()
		}
	}
}

func scratchBase(base *api.Base) { scratch(reflect.ValueOf(base).Elem()) }

// spared: lists with room behind them.
func spared(base api.Base) api.Base {
	base = cloned(base)
	base.Keys, base.Accounts, base.Rows, base.Entries = slices.Grow(base.Keys, 9), slices.Grow(base.Accounts, 9), slices.Grow(base.Rows, 9), slices.Grow(base.Entries, 9)
	base.Invoices, base.Payments, base.Allots = slices.Grow(base.Invoices, 9), slices.Grow(base.Payments, 9), slices.Grow(base.Allots, 9)
	for i := range base.Entries {
		base.Entries[i].Lines = slices.Grow(base.Entries[i].Lines, 9)
	}
	return base
}

// more: events that books of the rich base take, one behind the other.
func more() []api.Event {
	return []api.Event{
		post(15, "m1", line(bank, 5), line(cust, -5)), void(15, "m2", "m1"), void(15, "m3", "w"), invoice(15, "m4", cust, "Income", 42, 10), pay(15, "m5", cust, bank, 6), allot(15, "m6", "m5", "m4", 6),
		allot(15, "m7", "p", "i", 1), open(15, "New", api.Asset), shut(15, "New"), lock(14), post(15, "m8", line(bank, 5), line(cust, -2), line(cust, -3)),
	}
}

func TestP7_1FromKeepsNothing(t *testing.T) {
	base := spared(rich(t))
	before := cloned(base)
	b, why := From(base)
	if why != api.OK || !same(base, before) {
		t.Fatalf("From: %d, or the base was changed", why)
	}
	x := &both{t, b, &model{cloned(before)}}
	scratchBase(&base)
	alike(t, x.b, x.m)

	// What is told later does not go into the room behind the lists that were handed in.
	base = spared(before)
	y := made(t, base)
	y.take(more()...)
	if !same(base, before) {
		t.Error("the base was changed")
	}
	for i := range base.Keys[:cap(base.Keys)][len(base.Keys):] {
		if base.Keys[:cap(base.Keys)][len(base.Keys)+i] != "" {
			t.Error("the room behind the keys was used")
		}
	}
	if spare := base.Rows[:cap(base.Rows)][len(base.Rows)]; spare != (api.Posting{}) {
		t.Errorf("the room behind the rows was used: %v", spare)
	}
	scratchBase(&base)
	alike(t, y.b, y.m)
}

func TestP7_1BaseIsNobodys(t *testing.T) {
	x := made(t, rich(t))
	x.take(more()...)
	one, two := x.b.Base(), x.b.Base()
	scratchBase(&one)
	if !same(two, x.m.Base) {
		t.Error("two answers share memory")
	}
	alike(t, x.b, x.m)
	three := x.b.Base()
	x.take(post(16, "later", line(bank, 1), line(cust, -1)), void(16, "later2", "m8"), shut(20, late))
	if !same(two, three) {
		t.Error("an answer was changed by a later event")
	}
	scratchBase(&three)
	alike(t, x.b, x.m)

	// Within one answer: no list runs into another one.
	four := x.b.Base()
	want := cloned(four)
	for i := range four.Entries {
		l := four.Entries[i].Lines
		_ = append(l, slices.Repeat([]api.Line{line("Z", 9)}, 20)...)
		scratch(reflect.ValueOf(&l).Elem())
		for j := range four.Entries {
			if j > i && !slices.Equal(four.Entries[j].Lines, want.Entries[j].Lines) {
				t.Errorf("the lines of entries %d and %d share memory", i, j)
			}
		}
	}
	if !slices.Equal(four.Rows, want.Rows) {
		t.Error("the rows share memory with the entries")
	}
}

func TestP7_3ApplyKeepsNothing(t *testing.T) {
	x := toldBooks(t)
	lines := slices.Grow([]api.Line{line(bank, 5, "t"), line(cust, -5)}, 9)
	e := post(12, "x", lines...)
	rows, why := x.tell(e)
	if why != api.OK || !slices.Equal(lines, []api.Line{line(bank, 5, "t"), line(cust, -5)}) || lines[:3][2] != (api.Line{}) {
		t.Fatalf("%d, or the lines were changed", why)
	}
	scratch(reflect.ValueOf(&lines).Elem())
	scratch(reflect.ValueOf(&rows).Elem())
	alike(t, x.b, x.m)
	back, _ := x.tell(void(13, "v", "x"))
	scratch(reflect.ValueOf(&back).Elem())
	alike(t, x.b, x.m)
	for _, e := range []api.Event{invoice(13, "i", cust, "Income", 42, 10), pay(13, "p", cust, bank, 6)} {
		rows, _ := x.tell(e)
		scratch(reflect.ValueOf(&rows).Elem())
		alike(t, x.b, x.m)
	}
	// A refused one, and one that is only asked for.
	lines = []api.Line{line(bank, 5), line(cust, -4)}
	x.b.Check(post(13, "y", lines...))
	x.b.Apply(post(13, "y", lines...))
	if !slices.Equal(lines, []api.Line{line(bank, 5), line(cust, -4)}) {
		t.Error("the lines of a refused event were changed")
	}
	alike(t, x.b, x.m)
}

// TestTwoBooks: they know nothing of one another, though one was made of the other.
func TestTwoBooks(t *testing.T) {
	x := made(t, rich(t))
	y := made(t, x.b.Base())
	z := made(t, x.b.Base())
	x.take(more()...)
	alike(t, y.b, y.m)
	y.take(post(16, "m1", line(bank, 1), line(cust, -1)), void(15, "m9", "x"), allot(15, "m6", "p", "i", 200), open(16, "New", api.Income), lock(15))
	alike(t, x.b, x.m)
	alike(t, y.b, y.m)
	alike(t, z.b, z.m)
	if _, why := New().Apply(open(1, "A", api.Asset)); why != api.OK {
		t.Errorf("new books: %d", why)
	}
	alike(t, New(), &model{})
}

// TestP7_5AskingChangesNothing: whatever is asked, however often.
func TestP7_5AskingChangesNothing(t *testing.T) {
	x := made(t, rich(t))
	for range 3 {
		for _, e := range append(someEvents()[:3000], more()...) {
			if got, want := x.b.Check(e), x.m.check(e); got != want {
				t.Fatalf("Check(%+v): %d, want %d", e, got, want)
			}
		}
		alike(t, x.b, x.m)
	}
	x.take(more()...)
	alike(t, x.b, x.m)
}
