package chart

import (
	"cmp"
	"math/rand/v2"
	"regexp"
	"slices"
	"strings"
	"testing"

	"daybook/api"
)

var nameForm = regexp.MustCompile(`\A[A-Z][A-Za-z0-9-]{0,15}(:[A-Z][A-Za-z0-9-]{0,15}){0,5}\z`)

const (
	longestPart = "Abcdefghijklmno9"
	longestName = longestPart + ":" + longestPart + ":" + longestPart + ":" + longestPart + ":" + longestPart + ":" + longestPart
	greatest    = 1<<63 - 1
	least       = -1 << 63
)

// source: numbers that are the same in every run.
func source(n uint64) *rand.Rand { return rand.New(rand.NewPCG(6, n)) }

// beginnings: each beginning of a name's parts, the longest first.
func beginnings(name string) (l []string) {
	if !nameForm.MatchString(name) {
		return nil
	}
	parts := strings.Split(name, ":")
	for n := len(parts); n > 0; n-- {
		l = append(l, strings.Join(parts[:n], ":"))
	}
	return l
}

// model: the accounts in the order in which they were opened; everything else is worked out anew.
type model []api.Account

func (m model) at(name string) int {
	return slices.IndexFunc(m, func(a api.Account) bool { return a.Name == name })
}

// reasons: all errors that the chapter's words name for an Open, in its order.
func (m model) reasons(name string, typ, day int) (l []api.Errno) {
	say := func(e api.Errno, so bool) {
		if so {
			l = append(l, e)
		}
	}
	good, root := nameForm.MatchString(name), !strings.Contains(name, ":")
	say(api.ErrPath, !good)
	say(api.ErrArg, day < 1 || day > 3652059 || typ < 0 || typ > 5)
	say(api.ErrExists, m.at(name) >= 0)
	say(api.ErrMany, len(m) >= 100)
	say(api.ErrType, good && root == (typ == 0))
	if good && !root {
		p := m.at(beginnings(name)[1])
		say(api.ErrUnknown, p < 0)
		say(api.ErrClosed, p >= 0 && m[p].Closed)
		say(api.ErrEarly, p >= 0 && m[p].Opened > day)
	}
	return l
}

func (m *model) open(name string, typ, day int) api.Errno {
	if l := m.reasons(name, typ, day); len(l) > 0 {
		return l[0]
	}
	if b := beginnings(name); len(b) > 1 {
		typ = (*m)[m.at(b[len(b)-1])].Type
	}
	*m = append(*m, api.Account{Name: name, Type: typ, Opened: day})
	return api.OK
}

func (m model) close(name string) api.Errno {
	i := m.at(name)
	if i < 0 {
		return api.ErrUnknown
	}
	if m[i].Closed {
		return api.ErrClosed
	}
	for _, a := range m {
		if strings.HasPrefix(a.Name, name+":") && !a.Closed {
			return api.ErrUse
		}
	}
	m[i].Closed = true
	return api.OK
}

func (m model) may(name string, day int) api.Errno {
	switch i := m.at(name); {
	case i < 0:
		return api.ErrUnknown
	case m[i].Closed:
		return api.ErrClosed
	case m[i].Opened > day:
		return api.ErrEarly
	}
	return api.OK
}

func (m model) find(name string) (api.Account, bool) {
	if i := m.at(name); i >= 0 {
		return m[i], true
	}
	return api.Account{}, false
}

func (m model) kids(name string) (l []string) {
	for _, a := range m {
		b := append(beginnings(a.Name), "")
		if b[1] == name {
			l = append(l, a.Name)
		}
	}
	slices.Sort(l)
	return l
}

func (m model) accounts() []api.Account {
	return slices.SortedFunc(slices.Values(m), func(a, b api.Account) int { return cmp.Compare(a.Name, b.Name) })
}

// valid: a list of accounts, by the chapter's words.
func valid(l []api.Account) bool {
	ok := len(l) <= 100
	for i, a := range l {
		ok = ok && nameForm.MatchString(a.Name) && a.Opened >= 1 && a.Opened <= 3652059
		ok = ok && (i == 0 || l[i-1].Name < a.Name)
		b := beginnings(a.Name)
		if !ok || len(b) == 1 && (a.Type < 1 || a.Type > 5) {
			return false
		}
		if len(b) > 1 {
			p := model(l).at(b[1])
			ok = p >= 0 && l[p].Type == a.Type && l[p].Opened <= a.Opened && (!l[p].Closed || a.Closed)
		}
	}
	return ok
}

// alike: whether a chart tells all that the model does, of the names that are there and of some others.
func alike(t *testing.T, c *Chart, m model, others ...string) {
	t.Helper()
	if got, want := c.Accounts(), m.accounts(); !slices.Equal(got, want) {
		t.Fatalf("Accounts: %v, want %v", got, want)
	}
	asked := slices.Concat(others, []string{"", "A", "x y", longestName})
	for _, a := range m {
		asked = append(asked, a.Name, a.Name+":", a.Name+":Zz", a.Name+"-")
	}
	for _, name := range asked {
		if got, want := c.Kids(name), m.kids(name); !slices.Equal(got, want) {
			t.Fatalf("Kids(%q): %q, want %q", name, got, want)
		}
		gotA, got := c.Find(name)
		if wantA, want := m.find(name); gotA != wantA || got != want {
			t.Fatalf("Find(%q): %v, %v, want %v, %v", name, gotA, got, wantA, want)
		}
		for _, day := range []int{least, 0, 1, gotA.Opened - 1, gotA.Opened, gotA.Opened + 1, 3652059, greatest} {
			if got, want := c.May(name, day), m.may(name, day); got != want {
				t.Fatalf("May(%q, %d): %d, want %d", name, day, got, want)
			}
		}
	}
}

// copyOf: a chart that From makes of a list that must be valid.
func copyOf(t *testing.T, l []api.Account) *Chart {
	t.Helper()
	c, e := From(l)
	if e != api.OK || c == nil {
		t.Fatalf("From(%v): %v, %d", l, c, e)
	}
	return c
}
