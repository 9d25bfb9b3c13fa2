package chart

import (
	"slices"
	"strings"
	"testing"
)

// goodNames: one and six parts, parts of one and of sixteen bytes, names that are beginnings of others without being above them.
func goodNames() []string {
	return []string{"A", "Z", "Assets", "A-1", "A-", "A--", "A0", "Az", "AZ", "A:B", "A:B-2:C9", "A-1:B", "A:A", "A:B:C:D:E:F", "A:A:A:A:A:A", longestPart, "A:" + longestPart, longestPart + ":A", longestName}
}

func badNames() []string {
	return []string{"", "a", "9", "-", ":", "A:", ":A", "::", "A::B", "A:b", "A b", "A:9", "A:-", "A_", "A.", "A:B:", " A", "A ", "A\n", "A\x00", "Ä", "AÄ", "A:B:C:D:E:F:G", "A:B:C:D:E:F:", longestPart + "x", "A:" + longestPart + "x", longestPart + "x:A", longestName + ":A", longestName + "x", strings.Repeat("A", 100000), strings.Repeat("A:", 100000), strings.Repeat(":", 100000), "\xff", "A\xff"}
}

// same: whether all five calls on names say what the beginnings of its parts say.
func same(t *testing.T, name string) {
	t.Helper()
	want := beginnings(name)
	if got := Good(name); got != (len(want) > 0) {
		t.Fatalf("Good(%q): %v", name, got)
	}
	if got := Path(name); !slices.Equal(got, want) {
		t.Fatalf("Path(%q): %q, want %q", name, got, want)
	}
	parent, root, below := "", "", len(want) > 1
	if below {
		parent = want[1]
	}
	if len(want) > 0 {
		root = want[len(want)-1]
	}
	if p, ok := Parent(name); p != parent || ok != below {
		t.Fatalf("Parent(%q): %q, %v, want %q, %v", name, p, ok, parent, below)
	}
	if got := Root(name); got != root {
		t.Fatalf("Root(%q): %q, want %q", name, got, root)
	}
	for at := range min(len(name), 200) + 1 {
		if got, want := Under(name, name[:at]), slices.Contains(want, name[:at]); got != want {
			t.Fatalf("Under(%q, %q): %v, want %v", name, name[:at], got, want)
		}
	}
	if Under(name, name+":") || Under(name, name+"A") || Under(name, ":"+name) || Under(name, strings.ToLower(name)) {
		t.Fatalf("%q is under more than itself", name)
	}
}

func TestP6_1Good(t *testing.T) {
	for _, name := range goodNames() {
		if !Good(name) {
			t.Errorf("Good(%q): false", name)
		}
	}
	for _, name := range badNames() {
		if Good(name) {
			t.Errorf("Good(%q): true", name)
		}
	}
	if len(longestName) != 101 {
		t.Errorf("the longest name has %d bytes", len(longestName))
	}
}

func TestP6_2NothingOfOtherTexts(t *testing.T) {
	for _, name := range badNames() {
		if p, ok := Parent(name); p != "" || ok {
			t.Errorf("Parent(%q): %q, %v", name, p, ok)
		}
		if r, l := Root(name), Path(name); r != "" || len(l) != 0 {
			t.Errorf("%q: root %q, path %q", name, r, l)
		}
		if Under(name, name) || Under("A:B", name) || Under(name, "A") || Under(name, "") {
			t.Errorf("Under takes %q", name)
		}
	}
}

// TestP6_2EveryByte: each byte at each place of each name, and behind it.
func TestP6_2EveryByte(t *testing.T) {
	for _, name := range goodNames() {
		same(t, name)
		for at := range len(name) + 1 {
			for b := range 256 {
				same(t, name[:at]+string([]byte{byte(b)})+name[min(at+1, len(name)):])
			}
		}
	}
	for _, name := range badNames() {
		same(t, name)
	}
}

func TestP6_2AnyTwo(t *testing.T) {
	r := source(1)
	const bytes = "AAAABB:::::-1b _"
	var l []string
	for range 400 {
		b := make([]byte, 1+r.IntN(9))
		for i := range b {
			b[i] = bytes[r.IntN(len(bytes)-r.IntN(5))]
		}
		l = append(l, string(b))
	}
	l = slices.Concat(l, goodNames())
	for _, name := range l {
		same(t, name)
		for _, top := range l {
			if got, want := Under(name, top), slices.Contains(beginnings(name), top); got != want {
				t.Fatalf("Under(%q, %q): %v, want %v", name, top, got, want)
			}
		}
	}
}

// TestP6_9PathSaysAll: Parent, Root and Under are the second name of Path, its last one, and one of it.
func TestP6_9PathSaysAll(t *testing.T) {
	for _, name := range goodNames() {
		path := Path(name)
		if path[0] != name || Root(name) != path[len(path)-1] {
			t.Errorf("%q: root %q, path %q", name, Root(name), path)
		}
		p, ok := Parent(name)
		if ok != (len(path) > 1) || ok && p != path[1] {
			t.Errorf("%q: parent %q, path %q", name, p, path)
		}
		if ok && !slices.Equal(Path(p), path[1:]) {
			t.Errorf("%q: path %q, its parent's %q", name, path, Path(p))
		}
		for _, top := range slices.Concat(goodNames(), badNames()) {
			if Under(name, top) != slices.Contains(path, top) {
				t.Errorf("Under(%q, %q): %v", name, top, Under(name, top))
			}
		}
	}
}

func TestP6_11Rising(t *testing.T) {
	names := append(goodNames(), "A-1", "A0:B", "A:B-2")
	for _, a := range names {
		for _, b := range names {
			if a != b && Under(b, a) && a >= b {
				t.Errorf("%q is above %q, and not ahead of it", a, b)
			}
		}
	}
	c := New()
	for _, name := range []string{"A", "A-1", "A:B", "A-1:C"} {
		typ := 1
		if strings.Contains(name, ":") {
			typ = 0
		}
		if e := c.Open(name, typ, 1); e != 0 {
			t.Fatalf("Open(%q): %d", name, e)
		}
	}
	var got []string
	for _, a := range c.Accounts() {
		got = append(got, a.Name)
	}
	if want := []string{"A", "A-1", "A-1:C", "A:B"}; !slices.Equal(got, want) {
		t.Errorf("Accounts: %q, want %q", got, want)
	}
}

func TestPathIsNobodyElses(t *testing.T) {
	a := Path("A:B:C")
	b := Path("A:B:C")
	_ = append(a[:0], "x", "x", "x", "x")
	for i := range cap(a) {
		a[:cap(a)][i] = "x"
	}
	if want := []string{"A:B:C", "A:B", "A"}; !slices.Equal(b, want) || !slices.Equal(Path("A:B:C"), want) {
		t.Errorf("Path: %q, then %q", b, Path("A:B:C"))
	}
}
