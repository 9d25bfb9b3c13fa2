package chart

import (
	"slices"
	"strconv"
	"testing"

	"daybook/api"
)

func acc(name string, typ, day int, closed ...bool) api.Account {
	return api.Account{Name: name, Type: typ, Opened: day, Closed: len(closed) > 0}
}

// some: a valid list with all that can be in one.
func some() []api.Account {
	return []api.Account{acc("A", 1, 5), acc("A-1", 2, 3, true), acc("A:B", 1, 7, true), acc("A:B:C", 1, 7, true), acc("A:C", 1, 5), acc("B", 5, 1), acc("B:B", 5, 3652059)}
}

func refused(t *testing.T, l []api.Account) {
	t.Helper()
	if valid(l) {
		t.Fatalf("%v is valid", l)
	}
	if c, e := From(l); c != nil || e != api.ErrChart {
		t.Errorf("From(%v): %v, %d", l, c, e)
	}
}

func TestP6_3Valid(t *testing.T) {
	many := []api.Account{}
	for i := range 100 {
		many = append(many, acc("N"+strconv.Itoa(100+i), 1+i%5, 1+i))
	}
	deep := []api.Account{}
	for i, name := range slices.Backward(Path(longestName)) {
		deep = append(deep, acc(name, 4, 10-i))
	}
	for _, l := range [][]api.Account{some(), many, deep, many[:99], {acc("A", 5, 1)}, {acc("A", 1, 3652059, true)}, {acc("A", 1, 1, true), acc("A:B", 1, 1, true)}} {
		if !valid(l) {
			t.Fatalf("%v is not valid", l)
		}
		alike(t, copyOf(t, l), model(l))
	}
	refused(t, append(slices.Clone(many), acc("N200", 1, 1)))
	refused(t, append(slices.Clone(deep), acc(longestName+":A", 4, 10)))
}

// TestP6_3NotValid: one thing at a time is wrong.
func TestP6_3NotValid(t *testing.T) {
	for i := range some() {
		change := func(f func(*api.Account)) []api.Account {
			l := some()
			f(&l[i])
			return l
		}
		for _, name := range badNames() {
			refused(t, change(func(a *api.Account) { a.Name = name }))
		}
		for _, day := range []int{least, -1, 0, 3652060, 1<<32 + 5, greatest} {
			refused(t, change(func(a *api.Account) { a.Opened = day }))
		}
		for _, typ := range []int{least, -1, 0, 6, 257, 1<<32 + 1, greatest} {
			refused(t, change(func(a *api.Account) { a.Type = typ }))
		}
		refused(t, slices.Insert(some(), i, some()[i]))
		if i > 0 {
			l := some()
			l[i], l[i-1] = l[i-1], l[i]
			refused(t, l)
		}
	}
	for _, l := range [][]api.Account{
		{acc("A:B", 1, 5)}, {acc("A", 1, 5), acc("A:B:C", 1, 5)}, {acc("A-1", 1, 5), acc("A:B", 1, 5)}, {acc("A", 1, 5), acc("B:C", 1, 5)},
		{acc("A", 1, 5), acc("A:B", 2, 5)}, {acc("A", 1, 5), acc("A:B", 0, 5)}, {acc("A", 1, 5), acc("A:B", 1, 4)},
		{acc("A", 1, 5, true), acc("A:B", 1, 5)}, {acc("A", 1, 5), acc("A:B", 1, 5, true), acc("A:B:C", 1, 5)},
		{acc("B", 1, 5), acc("A", 1, 5)}, {acc("A", 1, 5), acc("A", 1, 5)}, {acc("A", 0, 5)}, {acc("A", 6, 5)}, {acc("A", 1, 0)}, {acc("", 1, 1)}, {{}},
		{acc("A", 1, 5), acc("A:B", 1, 5), acc("A-1", 1, 5)},
	} {
		refused(t, l)
	}
}

// TestP6_3AnyList: lists that are nearly valid, held against the chapter's words; each valid one is kept whole.
func TestP6_3AnyList(t *testing.T) {
	r := source(2)
	names := []string{"A", "A-1", "A0", "A:B", "A:B:C", "A:B:C:D", "A:C", "B", "B:C", "a"}
	met := map[bool]int{}
	for range 60000 {
		l := []api.Account{}
		for _, name := range names[:len(names)-r.IntN(2)] {
			if r.IntN(3) > 0 {
				l = append(l, api.Account{Name: name, Type: 1 + r.IntN(40)/39, Opened: 1 + r.IntN(3)/2*r.IntN(3), Closed: r.IntN(4) == 0})
			}
		}
		if len(l) > 1 && r.IntN(20) == 0 {
			l[0] = l[r.IntN(len(l))]
		}
		if len(l) > 0 && r.IntN(20) == 0 {
			l[0].Type, l[0].Opened = r.IntN(7), r.IntN(2)
		}
		met[valid(l)]++
		if valid(l) {
			if got := copyOf(t, l).Accounts(); !slices.Equal(got, l) {
				t.Fatalf("Accounts of From(%v): %v", l, got)
			}
			continue
		}
		refused(t, l)
	}
	if met[true] < 1000 || met[false] < 1000 {
		t.Errorf("lists: %v", met)
	}
}

// TestP6_3SomeCallsLeadThere: each valid list is what opening in its order and closing from its end lead to.
func TestP6_3SomeCallsLeadThere(t *testing.T) {
	c := New()
	for _, a := range some() {
		typ := a.Type
		if _, below := Parent(a.Name); below {
			typ = 0
		}
		if e := c.Open(a.Name, typ, a.Opened); e != api.OK {
			t.Fatalf("Open(%v): %d", a, e)
		}
	}
	for _, a := range slices.Backward(some()) {
		if a.Closed && c.Close(a.Name) != api.OK {
			t.Fatalf("Close(%v)", a)
		}
	}
	alike(t, c, some())
}

func TestListsAreNobodyElses(t *testing.T) {
	in := append(some(), acc("Zz", 1, 1))[:len(some())]
	c := copyOf(t, in)
	if !slices.Equal(in, some()) || in[:len(in)+1][len(in)] != acc("Zz", 1, 1) {
		t.Fatalf("From changes its list: %v", in)
	}
	for i := range in {
		in[i] = acc("X", 9, 9)
	}
	alike(t, c, some())
	for range 2 {
		l, kids, roots := c.Accounts(), c.Kids("A"), c.Kids("")
		for i := range l[:cap(l)] {
			l[:cap(l)][i] = acc("X", 9, 9)
		}
		for _, k := range [][]string{kids, roots} {
			for i := range k[:cap(k)] {
				k[:cap(k)][i] = "X"
			}
		}
		alike(t, c, some())
	}
	l, kids := c.Accounts(), c.Kids("A")
	if e := c.Open("A:A", 0, 9); e != api.OK {
		t.Fatalf("Open: %d", e)
	}
	if !slices.Equal(l, some()) || !slices.Equal(kids, []string{"A:B", "A:C"}) {
		t.Errorf("what was handed out changes: %v, %q", l, kids)
	}
	refusedIn := []api.Account{acc("A:B", 1, 5), acc("A", 1, 5)}
	refused(t, refusedIn)
	if !slices.Equal(refusedIn, []api.Account{acc("A:B", 1, 5), acc("A", 1, 5)}) {
		t.Errorf("a refused list is changed: %v", refusedIn)
	}
}
