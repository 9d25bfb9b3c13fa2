package chart

import (
	"slices"
	"strings"
	"testing"

	"daybook/api"
)

// walkNames: few enough that calls meet, among them beginnings that are not above.
func walkNames() []string {
	return []string{"A", "A-1", "A0", "B", "A:B", "A:B-2", "A:B:C", "A:B:C:D", "A:B:C:D:E", "A:B:C:D:E:F", "A:C", "A-1:B", "A0:B", "B:A", "B:B", "B:B:B", "a", "A:", "", "A:B:C:D:E:F:G"}
}

// call: one of a walk's: 0 opens, 1 closes, 2 asks.
type call struct {
	what, typ, day int
	name           string
}

func (x call) on(c *Chart) api.Errno {
	return []func() api.Errno{func() api.Errno { return c.Open(x.name, x.typ, x.day) }, func() api.Errno { return c.Close(x.name) }, func() api.Errno { return c.May(x.name, x.day) }}[x.what]()
}

func (x call) onModel(m *model) api.Errno {
	return []func() api.Errno{func() api.Errno { return m.open(x.name, x.typ, x.day) }, func() api.Errno { return m.close(x.name) }, func() api.Errno { return m.may(x.name, x.day) }}[x.what]()
}

// someCall: mostly one that is not refused for its type.
func someCall(r interface{ IntN(int) int }, names []string) call {
	x := call{what: []int{0, 0, 0, 1, 2}[r.IntN(5)], name: names[r.IntN(len(names))], day: 1 + r.IntN(4)}
	if !strings.Contains(x.name, ":") {
		x.typ = 1 + r.IntN(5)
	}
	if r.IntN(12) == 0 {
		x.typ = r.IntN(8) - 1
	}
	if r.IntN(12) == 0 {
		x.day = []int{least, -1, 0, 3652059, 3652060, greatest}[r.IntN(6)]
	}
	return x
}

// TestP6_8Walk: calls of all sorts on a chart, on one that is made anew of its accounts all the time, and on the model; a refused call changes nothing.
func TestP6_8Walk(t *testing.T) {
	r := source(3)
	met := map[[2]int]int{}
	for range 400 {
		c, again, m := New(), New(), &model{}
		for range 40 {
			x := someCall(r, walkNames())
			ahead := c.Accounts()
			got, want, other := x.on(c), x.onModel(m), x.on(again)
			if got != want || other != want {
				t.Fatalf("%v on %v: %d, made anew %d, want %d", x, ahead, got, other, want)
			}
			met[[2]int{x.what, int(want)}]++
			if (want != api.OK || x.what == 2) && !slices.Equal(c.Accounts(), ahead) {
				t.Fatalf("%v, %d: %v, ahead of it %v", x, want, c.Accounts(), ahead)
			}
			if l := c.Accounts(); !valid(l) {
				t.Fatalf("%v leads to %v", x, l)
			}
			again = copyOf(t, again.Accounts())
		}
		alike(t, c, *m, walkNames()...)
		alike(t, again, *m, walkNames()...)
	}
	for what, l := range [][]api.Errno{{0, api.ErrPath, api.ErrArg, api.ErrExists, api.ErrType, api.ErrUnknown, api.ErrClosed, api.ErrEarly}, {0, api.ErrUnknown, api.ErrClosed, api.ErrUse}, {0, api.ErrUnknown, api.ErrClosed, api.ErrEarly}} {
		for _, e := range l {
			if met[[2]int{what, int(e)}] == 0 {
				t.Errorf("call %d was never answered %d", what, e)
			}
		}
	}
}

// TestTwoChartsApart: what is called on one is not seen in another, made anew or made of the same list.
func TestTwoChartsApart(t *testing.T) {
	list := some()
	a, b, c := copyOf(t, list), copyOf(t, list), New()
	for _, x := range []call{{0, 0, 9, "A:D"}, {1, 0, 0, "A:C"}, {0, 3, 1, "Z"}, {0, 0, 9, "Z:A"}} {
		if e := x.on(a); e != api.OK {
			t.Fatalf("%v: %d", x, e)
		}
	}
	alike(t, b, some(), "Z", "A:D")
	alike(t, c, model{}, "Z", "A:D")
	r := source(4)
	var charts [3]*Chart
	var models [3]model
	for i := range charts {
		charts[i] = New()
	}
	for range 3000 {
		i, x := r.IntN(3), someCall(r, walkNames())
		if got, want := x.on(charts[i]), x.onModel(&models[i]); got != want {
			t.Fatalf("%v on the chart %d: %d, want %d", x, i, got, want)
		}
	}
	for i := range charts {
		alike(t, charts[i], models[i])
	}
}

// TestP6_9Tree: going down by Kids meets each account once.
func TestP6_9Tree(t *testing.T) {
	r := source(5)
	for range 200 {
		c := New()
		for range 60 {
			someCall(r, walkNames()).on(c)
		}
		var met []string
		for todo := c.Kids(""); len(todo) > 0; todo = todo[1:] {
			met = append(met, todo[0])
			todo = append(todo, c.Kids(todo[0])...)
		}
		slices.Sort(met)
		l := c.Accounts()
		if len(met) != len(l) {
			t.Fatalf("by Kids %q, of %v", met, l)
		}
		for i, a := range l {
			if met[i] != a.Name {
				t.Fatalf("by Kids %q, of %v", met, l)
			}
			for _, b := range l {
				if Under(a.Name, b.Name) != slices.Contains(Path(a.Name), b.Name) {
					t.Fatalf("Under(%q, %q)", a.Name, b.Name)
				}
			}
		}
	}
}

// TestP6_10AnyOrder: each behind its parent, else in any order.
func TestP6_10AnyOrder(t *testing.T) {
	r := source(6)
	want := copyOf(t, some())
	for range 200 {
		c := New()
		for left := some(); len(left) > 0; {
			i := r.IntN(len(left))
			a := left[i]
			typ := a.Type
			if p, below := Parent(a.Name); below {
				typ = 0
				if _, there := c.Find(p); !there {
					continue
				}
			}
			if e := c.Open(a.Name, typ, a.Opened); e != api.OK {
				t.Fatalf("Open(%v): %d", a, e)
			}
			left = slices.Delete(left, i, i+1)
		}
		for _, a := range slices.Backward(some()) {
			if a.Closed && c.Close(a.Name) != api.OK {
				t.Fatalf("Close(%v)", a)
			}
		}
		if !slices.Equal(c.Accounts(), want.Accounts()) {
			t.Fatalf("%v, want %v", c.Accounts(), want.Accounts())
		}
		alike(t, c, some())
	}
}

// TestP6_10Swap: two calls that were answered OK change places, if neither account is below the other.
func TestP6_10Swap(t *testing.T) {
	r := source(7)
	swaps := map[[2]int]int{}
	for range 4000 {
		c := New()
		for range r.IntN(60) {
			someCall(r, walkNames()).on(c)
		}
		state := c.Accounts()
		x, y := someCall(r, walkNames()), someCall(r, walkNames())
		if x.what == 2 || y.what == 2 || Under(x.name, y.name) || Under(y.name, x.name) || x.on(c) != api.OK || y.on(c) != api.OK {
			continue
		}
		swaps[[2]int{x.what, y.what}]++
		other := copyOf(t, state)
		if e, f := y.on(other), x.on(other); e != api.OK || f != api.OK || !slices.Equal(c.Accounts(), other.Accounts()) {
			t.Fatalf("%v, then %v on %v: the other way round %d, %d", x, y, state, e, f)
		}
	}
	if len(swaps) != 4 {
		t.Errorf("swaps: %v", swaps)
	}
}
