package rebuild

import (
	"reflect"
	"slices"
	"testing"

	"daybook/api"
)

// scratch writes over every list that can be reached, its spare room too.
func scratch(v reflect.Value) {
	switch v.Kind() {
	case reflect.Struct:
		for i := range v.NumField() {
			scratch(v.Field(i))
		}
	case reflect.Slice:
		v = v.Slice(0, v.Cap())
		for i := range v.Len() {
			scratch(v.Index(i))
			v.Index(i).SetZero()
		}
	}
}

func scratchSnap(x *api.Snap) { scratch(reflect.ValueOf(x).Elem()) }

// roomy: a copy of a value, each of its lists with room behind it.
func roomy(v reflect.Value) reflect.Value {
	c := reflect.New(v.Type()).Elem()
	c.Set(v)
	switch v.Kind() {
	case reflect.Struct:
		for i := range v.NumField() {
			c.Field(i).Set(roomy(v.Field(i)))
		}
	case reflect.Slice:
		c.Set(reflect.MakeSlice(v.Type(), v.Len(), v.Len()+9))
		for i := range v.Len() {
			c.Index(i).Set(roomy(v.Index(i)))
		}
	}
	return c
}

// roomUnused: nothing was written to the room behind any list.
func roomUnused(v reflect.Value) bool {
	switch v.Kind() {
	case reflect.Struct:
		for i := range v.NumField() {
			if !roomUnused(v.Field(i)) {
				return false
			}
		}
	case reflect.Slice:
		for i := range v.Cap() {
			x := v.Slice(0, v.Cap()).Index(i)
			if i < v.Len() && !roomUnused(x) || i >= v.Len() && !x.IsZero() {
				return false
			}
		}
	}
	return true
}

func roomySnap(x api.Snap) api.Snap {
	return roomy(reflect.ValueOf(x)).Interface().(api.Snap)
}

// later: events that a set behind the story takes.
func later() []api.Event {
	return []api.Event{
		post(d+81, "l1", line(bank, 5), line(ann, -5)), void(d+81, "l2", "l1"), void(d+81, "l3", "x2"), invoice(d+82, "l4", ann, work, d+90, 44),
		pay(d+83, "l5", ann, bank, 45), allot(d+84, "l6", "l5", "l4", 44), allot(d+84, "l7", "l5", "i3", 1), open(d+85, "Zeta", api.Equity), shut(d+86, "Zeta"), lock(d + 70),
	}
}

func TestP12_3FromKeepsNothing(t *testing.T) {
	was := snapBehind(t, story())
	x := roomySnap(was)
	b := &both{t, from(t, x), story()}
	for _, e := range later() {
		if why := b.tell(e); why != api.OK {
			t.Fatalf("%+v: %d", e, why)
		}
	}
	if !alike(x, was) || !roomUnused(reflect.ValueOf(x)) {
		t.Error("the Snap was changed")
	}
	scratchSnap(&x)
	has(t, b.s, plainSnap(t, append(story(), later()...)))

	x = roomySnap(was)
	s := from(t, x)
	scratchSnap(&x)
	has(t, s, was)

	// One that is refused.
	x = roomySnap(was)
	x.AsOf = 0
	From(x)
	x.AsOf = was.AsOf
	if !alike(x, was) || !roomUnused(reflect.ValueOf(x)) {
		t.Error("a Snap that is refused was changed")
	}
}

func TestP12_3SnapIsNobodys(t *testing.T) {
	s := behind(t, story())
	want := plainSnap(t, story())
	one, two := s.Snap(), s.Snap()
	scratchSnap(&one)
	if !alike(two, want) {
		t.Error("two answers share memory")
	}
	has(t, s, want)
	for _, e := range later() {
		s.Apply(e)
	}
	if !alike(two, want) {
		t.Error("an answer was changed by later events")
	}
	want = plainSnap(t, append(story(), later()...))
	has(t, s, want)

	// Within one answer: the lists that tell the same are two.
	three := s.Snap()
	scratch(reflect.ValueOf(&three.Claims).Elem())
	scratch(reflect.ValueOf(&three.Allots).Elem())
	if !alike(three.Base, want.Base) {
		t.Error("the views' lists are the base's")
	}
	three = s.Snap()
	scratch(reflect.ValueOf(&three.Base).Elem())
	if !alike(three.Claims, want.Claims) || !alike(three.Allots, want.Allots) || !alike(three.Balances, want.Balances) || !alike(three.Days, want.Days) {
		t.Error("the base's lists are the views'")
	}
	for i := range want.Base.Entries {
		four := s.Snap()
		scratch(reflect.ValueOf(&four.Base.Entries[i].Lines).Elem())
		four.Base.Entries[i].Lines = want.Base.Entries[i].Lines
		if !alike(four, want) {
			t.Errorf("the lines of entry %d stand in another list too", i)
		}
	}
	has(t, s, want)
}

func TestP12_1ApplyKeepsNothing(t *testing.T) {
	s := behind(t, opened())
	lines := slices.Grow([]api.Line{line(bank, 5), line(ann, -5)}, 9)
	was := slices.Clone(lines)
	if why := s.Apply(post(d, "x", lines...)); why != api.OK {
		t.Fatal(why)
	}
	if !slices.Equal(lines, was) || !roomUnused(reflect.ValueOf(lines)) {
		t.Error("the lines were changed")
	}
	scratch(reflect.ValueOf(&lines).Elem())
	events := append(opened(), post(d, "x", was...))
	has(t, s, plainSnap(t, events))
	if why := s.Apply(void(d, "v", "x")); why != api.OK {
		t.Fatal(why)
	}
	has(t, s, plainSnap(t, append(events, void(d, "v", "x"))))
	lines = []api.Line{line(bank, 5), line(ann, -4)}
	if why := s.Apply(post(d, "y", lines...)); why != api.ErrBalance || !slices.Equal(lines, []api.Line{line(bank, 5), line(ann, -4)}) {
		t.Errorf("%d; the lines: %v", why, lines)
	}
}

// TestTwoSets: a set, one made of its Snap, and one more know nothing of one another.
func TestTwoSets(t *testing.T) {
	one := behind(t, story())
	two, three := from(t, one.Snap()), from(t, one.Snap())
	for _, e := range later() {
		one.Apply(e)
	}
	has(t, two, plainSnap(t, story()))
	two.Apply(open(d+99, "Two", api.Asset))
	has(t, one, plainSnap(t, append(story(), later()...)))
	has(t, two, plainSnap(t, append(story(), open(d+99, "Two", api.Asset))))
	has(t, three, plainSnap(t, story()))
	has(t, New(), api.Snap{AsOf: 1})
}
