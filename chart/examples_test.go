package chart

import (
	"slices"
	"testing"

	"daybook/api"
)

func TestExample1Good(t *testing.T) {
	for _, name := range []string{"Assets", "A", "A:B-2:C9", "A:B:C:D:E:F", "Abcdefghijklmnop"} {
		if !Good(name) {
			t.Errorf("Good(%q): false", name)
		}
	}
	for _, name := range []string{"", "a", "A:", ":A", "A::B", "A:b", "A b", "A:9", "Ä", "A:B:C:D:E:F:G", "Abcdefghijklmnopq"} {
		if Good(name) {
			t.Errorf("Good(%q): true", name)
		}
	}
}

func TestExample2Names(t *testing.T) {
	if p, ok := Parent("A:B:C"); p != "A:B" || !ok {
		t.Errorf("Parent: %q, %v", p, ok)
	}
	for _, name := range []string{"A", "a:b"} {
		if p, ok := Parent(name); p != "" || ok {
			t.Errorf("Parent(%q): %q, %v", name, p, ok)
		}
	}
	if r := Root("A:B"); r != "A" {
		t.Errorf("Root: %q", r)
	}
	if l := Path("A:B:C"); !slices.Equal(l, []string{"A:B:C", "A:B", "A"}) {
		t.Errorf("Path: %q", l)
	}
	if !Under("A:B", "A") || !Under("A", "A") || Under("A-1", "A") || Under("A", "A:B") || Under("x", "x") {
		t.Error("Under")
	}
}

// step: a call, and what it must be answered.
type step struct {
	call
	want api.Errno
}

func play(t *testing.T, c *Chart, l []step) {
	t.Helper()
	for _, s := range l {
		if got := s.on(c); got != s.want {
			t.Errorf("%v: %d, want %d", s.call, got, s.want)
		}
	}
}

func TestExamples3To5Calls(t *testing.T) {
	open := func(name string, typ, day int, want api.Errno) step { return step{call{0, typ, day, name}, want} }
	shut := func(name string, want api.Errno) step { return step{call{1, 0, 0, name}, want} }
	may := func(name string, day int, want api.Errno) step { return step{call{2, 0, day, name}, want} }
	c := New()
	play(t, c, []step{
		open("A:B", 0, 5, api.ErrUnknown), open("A", 0, 5, api.ErrType), open("A", 6, 5, api.ErrArg), open("A", 1, 0, api.ErrArg), open("a", 9, 0, api.ErrPath), open("A", 1, 5, api.OK), open("A", 1, 5, api.ErrExists),
		open("A:B", 1, 5, api.ErrType), open("A:B", 0, 4, api.ErrEarly), open("A:B", 0, 5, api.OK),
	})
	if l := c.Accounts(); !slices.Equal(l, []api.Account{{Name: "A", Type: 1, Opened: 5}, {Name: "A:B", Type: 1, Opened: 5}}) {
		t.Errorf("Accounts: %v", l)
	}
	play(t, c, []step{
		may("A:B", 4, api.ErrEarly), may("A:B", 5, api.OK), may("A:B", greatest, api.OK), may("A:C", 9, api.ErrUnknown),
		shut("A", api.ErrUse), shut("A:B", api.OK), shut("A:B", api.ErrClosed), shut("A", api.OK), may("A", 9, api.ErrClosed), open("A:C", 0, 9, api.ErrClosed), open("A:B", 0, 9, api.ErrExists),
	})
	for name, want := range map[string][]string{"": {"A"}, "A": {"A:B"}, "A:B": nil, "Z": nil, "x y": nil} {
		if got := c.Kids(name); !slices.Equal(got, want) {
			t.Errorf("Kids(%q): %q, want %q", name, got, want)
		}
	}
}

func TestExample6From(t *testing.T) {
	for _, l := range [][]api.Account{
		{acc("A:B", 1, 5)}, {acc("A", 1, 5), acc("A:B", 2, 5)}, {acc("A", 1, 5), acc("A:B", 1, 4)}, {acc("A", 1, 5, true), acc("A:B", 1, 5)}, {acc("B", 1, 5), acc("A", 1, 5)}, {acc("A", 0, 5)},
	} {
		refused(t, l)
	}
	l := []api.Account{acc("A", 1, 5), acc("A-1", 2, 3), acc("A:B", 1, 7, true)}
	if got := copyOf(t, l).Accounts(); !slices.Equal(got, l) {
		t.Errorf("Accounts: %v", got)
	}
}
