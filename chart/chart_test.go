package chart

import (
	"slices"
	"strconv"
	"strings"
	"testing"

	"daybook/api"
)

// opened: a chart and its model, with accounts at the days that are told; a name with a ! behind it is closed then.
func opened(t *testing.T, names ...string) (*Chart, *model) {
	t.Helper()
	c, m := New(), &model{}
	for _, s := range names {
		name, tail, _ := strings.Cut(s, " ")
		day, shut := strings.CutSuffix(tail, "!")
		n, err := strconv.Atoi(day)
		typ := 0
		if !strings.Contains(name, ":") {
			typ = api.Asset
		}
		if e := c.Open(name, typ, n); err != nil || e != api.OK || m.open(name, typ, n) != api.OK {
			t.Fatalf("%q: %d", s, e)
		}
		if shut {
			defer func() {
				if e := c.Close(name); e != api.OK || m.close(name) != api.OK {
					t.Fatalf("%q: %d", s, e)
				}
			}()
		}
	}
	return c, m
}

// full: MaxAccounts accounts, among them A of day 5, A:B, and a closed C of day 5.
func full(t *testing.T) (*Chart, *model) {
	t.Helper()
	names := []string{"A 5", "A:B 7", "C 5!"}
	for i := len(names); i < api.MaxAccounts; i++ {
		names = append(names, "N"+strconv.Itoa(i)+" 1")
	}
	return opened(t, names...)
}

func TestP6_3NewAndZero(t *testing.T) {
	for _, c := range []*Chart{New(), {}} {
		alike(t, c, model{})
		if e := c.Close("A"); e != api.ErrUnknown {
			t.Errorf("Close: %d", e)
		}
		if e := c.Open("A", 5, 1); e != api.OK {
			t.Errorf("Open: %d", e)
		}
		alike(t, c, model{{Name: "A", Type: 5, Opened: 1}})
	}
	for _, l := range [][]api.Account{nil, {}} {
		alike(t, copyOf(t, l), model{})
	}
}

// TestP6_4FirstError: names, types and days of all sorts, on charts of all sorts; each error is met with each one behind it that can be.
func TestP6_4FirstError(t *testing.T) {
	met := map[[2]api.Errno]bool{}
	names := slices.Concat(badNames(), []string{"A", "B", "C", "D", "A:B", "A:D", "A:B:C", "B:C", "C:D", "D:E", "D:E:F", "A-1", "A:B-2", longestPart, longestName, "A:A:A:A:A:A"})
	for _, fresh := range []func() (*Chart, *model){
		func() (*Chart, *model) { return opened(t) },
		func() (*Chart, *model) { return opened(t, "A 5", "A:B 7", "B 1", "C 5!", "D 3!", "D:E 9!") },
		func() (*Chart, *model) { return full(t) },
	} {
		c, m := fresh()
		for _, name := range names {
			for _, typ := range []int{least, -1, 0, 1, 2, 3, 4, 5, 6, 7, 256, 257, 1<<32 + 1, greatest} {
				for _, day := range []int{least, -1, 0, 1, 4, 5, 6, 7, 8, 1<<32 + 5, 3652058, 3652059, 3652060, greatest} {
					l := m.reasons(name, typ, day)
					got := c.Open(name, typ, day)
					if want := m.open(name, typ, day); got != want {
						t.Fatalf("Open(%q, %d, %d) on %v: %d, want %d", name, typ, day, *m, got, want)
					}
					for i := range l {
						met[[2]api.Errno{l[0], l[i]}] = true
					}
					if got, want := c.Accounts(), m.accounts(); !slices.Equal(got, want) {
						t.Fatalf("behind Open(%q, %d, %d): %v, want %v", name, typ, day, got, want)
					}
					if len(l) == 0 {
						c, m = fresh()
					}
				}
			}
		}
	}
	order := []api.Errno{api.ErrPath, api.ErrArg, api.ErrExists, api.ErrMany, api.ErrType, api.ErrUnknown, api.ErrClosed, api.ErrEarly}
	behind := map[api.Errno]string{api.ErrPath: "01010000", api.ErrArg: "00111111", api.ErrExists: "00011011", api.ErrMany: "00001111", api.ErrType: "00000111", api.ErrUnknown: "00000000", api.ErrClosed: "00000001", api.ErrEarly: "00000000"}
	for i, first := range order {
		for j, e := range order {
			if (behind[first][j] == '1' || i == j) && !met[[2]api.Errno{first, e}] {
				t.Errorf("error %d with %d behind it was not met", first, e)
			}
		}
	}
}

func TestP6_4Edges(t *testing.T) {
	for typ := 1; typ <= 5; typ++ {
		for _, day := range []int{1, 3652059} {
			c := New()
			if e := c.Open("A", typ, day); e != api.OK {
				t.Fatalf("Open(A, %d, %d): %d", typ, day, e)
			}
			for _, name := range slices.Backward(Path("A:B:C:D:E:F")[:5]) {
				if e := c.Open(name, 0, day); e != api.OK {
					t.Fatalf("Open(%q, 0, %d): %d", name, day, e)
				}
			}
			for _, a := range c.Accounts() {
				if a.Type != typ || a.Opened != day || a.Closed {
					t.Errorf("%v, want type %d and day %d", a, typ, day)
				}
			}
			if e := c.Open("A:B:C:D:E:F:G", 0, day); e != api.ErrPath {
				t.Errorf("seven parts: %d", e)
			}
		}
	}
}

// TestP6_4Hundred: a closed account is counted too, and closing one makes no room.
func TestP6_4Hundred(t *testing.T) {
	c, m := full(t)
	for _, name := range []string{"Z", "A:Z", "C:Z"} {
		if e := c.Open(name, 0, 9); e != api.ErrMany {
			t.Errorf("Open(%q): %d", name, e)
		}
	}
	if e := c.Open("C", 1, 9); e != api.ErrExists {
		t.Errorf("the closed one: %d", e)
	}
	if e := c.Close("A:B"); e != api.OK || m.close("A:B") != api.OK {
		t.Errorf("Close: %d", e)
	}
	if e := c.Open("Z", 1, 9); e != api.ErrMany {
		t.Errorf("behind a Close: %d", e)
	}
	alike(t, c, *m, "Z")
	less, _ := From(c.Accounts()[:99])
	if e := less.Open("Z", 1, 9); e != api.OK {
		t.Errorf("the hundredth: %d", e)
	}
	if e := less.Open("Zz", 1, 9); e != api.ErrMany {
		t.Errorf("one more: %d", e)
	}
}

func TestP6_5Close(t *testing.T) {
	c, m := opened(t, "A 1", "A-1 1", "A:B 1", "A:B:C 1", "A:D 1", "Ab 1")
	for _, step := range []struct {
		name string
		want api.Errno
	}{
		{"", api.ErrUnknown}, {"x y", api.ErrUnknown}, {"a", api.ErrUnknown}, {"A:", api.ErrUnknown}, {"A:C", api.ErrUnknown}, {"A:B:C:D", api.ErrUnknown}, {"Z", api.ErrUnknown}, {longestName + "x", api.ErrUnknown},
		{"A", api.ErrUse}, {"A:B", api.ErrUse}, {"A:B:C", api.OK}, {"A:B:C", api.ErrClosed}, {"A", api.ErrUse}, {"A:B", api.OK}, {"A", api.ErrUse},
		{"A:B", api.ErrClosed}, {"A:D", api.OK}, {"A", api.OK}, {"A", api.ErrClosed}, {"A:D", api.ErrClosed}, {"A-1", api.OK}, {"Ab", api.OK},
	} {
		if got, want := c.Close(step.name), m.close(step.name); got != step.want || want != step.want {
			t.Errorf("Close(%q): %d, want %d", step.name, got, step.want)
		}
		alike(t, c, *m, step.name)
	}
}

// TestP6_5DeepUse: only what is far below is open still.
func TestP6_5DeepUse(t *testing.T) {
	c, m := opened(t, "A 1", "A:B 1", "A:B:C 1", "A:B:C:D 1", "A:B:C:D:E 1", "A:B:C:D:E:F 1", "A:C 1!", "A:A 1!")
	path := Path("A:B:C:D:E:F")
	for i, name := range path {
		for _, above := range path[i+1:] {
			if e := c.Close(above); e != api.ErrUse {
				t.Fatalf("Close(%q) ahead of %q: %d", above, name, e)
			}
		}
		if e := c.Close(name); e != api.OK || m.close(name) != api.OK {
			t.Fatalf("Close(%q): %d", name, e)
		}
		alike(t, c, *m)
	}
}

func TestP6_6May(t *testing.T) {
	c, m := opened(t, "A 5", "A:B 7", "B 5!", "C 1", "D 3652059")
	for _, x := range []struct {
		name string
		day  int
		want api.Errno
	}{
		{"A", 4, api.ErrEarly}, {"A", 5, api.OK}, {"A", 6, api.OK}, {"A", 0, api.ErrEarly}, {"A", -1, api.ErrEarly}, {"A", least, api.ErrEarly}, {"A", greatest, api.OK}, {"A", 3652060, api.OK},
		{"A:B", 5, api.ErrEarly}, {"A:B", 6, api.ErrEarly}, {"A:B", 7, api.OK},
		{"B", 4, api.ErrClosed}, {"B", 5, api.ErrClosed}, {"B", least, api.ErrClosed}, {"B", greatest, api.ErrClosed},
		{"C", 0, api.ErrEarly}, {"C", 1, api.OK}, {"D", 3652058, api.ErrEarly}, {"D", 3652059, api.OK},
		{"", 9, api.ErrUnknown}, {"a", 9, api.ErrUnknown}, {"x y", least, api.ErrUnknown}, {"A:C", 9, api.ErrUnknown}, {"A:B:C", 1, api.ErrUnknown}, {"A-1", 9, api.ErrUnknown}, {"A:", 9, api.ErrUnknown},
	} {
		if got := c.May(x.name, x.day); got != x.want {
			t.Errorf("May(%q, %d): %d, want %d", x.name, x.day, got, x.want)
		}
	}
	alike(t, c, *m)
}

func TestP6_7FindAndKids(t *testing.T) {
	c, m := opened(t, "B 2", "A 5", "A:C 5", "A:B 6!", "A-1 1", "A:B-2 9", "A:B:C 7!", "A0 1", "A-1:B 2", "A:B:A 8!")
	alike(t, c, *m, "A:B:B", "A:Z", "Z")
	for name, want := range map[string][]string{
		"": {"A", "A-1", "A0", "B"}, "A": {"A:B", "A:B-2", "A:C"}, "A:B": {"A:B:A", "A:B:C"}, "A-1": {"A-1:B"}, "A0": nil, "A:C": nil, "A:": nil, ":": nil, "Z": nil, "a": nil, " ": nil,
	} {
		if got := c.Kids(name); !slices.Equal(got, want) {
			t.Errorf("Kids(%q): %q, want %q", name, got, want)
		}
	}
	if a, ok := c.Find("A:B"); !ok || a != (api.Account{Name: "A:B", Type: api.Asset, Opened: 6, Closed: true}) {
		t.Errorf("Find: %v, %v", a, ok)
	}
	for _, name := range append(badNames(), "A:Z", "Z", "A:B:C:D") {
		if a, ok := c.Find(name); ok || a != (api.Account{}) {
			t.Errorf("Find(%q): %v, %v", name, a, ok)
		}
	}
}
