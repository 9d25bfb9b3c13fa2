package sheet

import (
	"slices"
	"strings"
	"testing"
	"unsafe"

	"daybook/api"
)

// spared: a copy with room behind it.
func spared[E any](l []E) []E { return slices.Grow(slices.Clone(l), 5) }

// untouched: whether a list is as it was, and nothing was written to the room behind it.
func untouched[E comparable](l, was []E) bool {
	var none E
	return slices.Equal(l, was) && !slices.ContainsFunc(l[len(l):cap(l)], func(e E) bool { return e != none })
}

// holds: a list that a call was handed must be as it was.
func holds[E comparable](t *testing.T, what string, l, was []E) {
	t.Helper()
	if !untouched(l, was) {
		t.Fatalf("%s: %v was changed to %v", what, was, l)
	}
}

// What is handed in stays as it is, its spare room too, whether the call answers OK or not.
func TestMemoryIsNotChanged(t *testing.T) {
	r := source(30)
	for range 500 {
		columns := anyColumns(r, 1+r.IntN(5))
		accounts := anyAccounts(r, 1+r.IntN(6))
		balances := anyBalances(r, accounts)
		rows := anyRows(r, accounts, 1+r.IntN(9), 9)
		if r.IntN(2) == 0 {
			rows = smallRows(r, accounts, 1+r.IntN(9), 9)
		}
		open := anyClaims(r, "A", 1+r.IntN(5))
		for _, digits := range []int{2, 7} {
			l := spared(columns)
			Trial(l, digits)
			holds(t, "Trial", l, columns)
			a, b, p := spared(accounts), spared(balances), spared(rows)
			Tree(a, b, digits)
			Income(a, p, 2, 6, digits)
			Position(a, p, 6, digits)
			holds(t, "the accounts", a, accounts)
			holds(t, "Tree", b, balances)
			holds(t, "Income and Position", p, rows)
			c := spared(open)
			ages := anyAges(r)
			before := ages
			Statement("A", c, ages, 9, digits)
			holds(t, "Statement", c, open)
			if ages != before {
				t.Fatal("the ages were changed")
			}
		}
	}
}

func TestMemoryTableIsNotChanged(t *testing.T) {
	r := source(31)
	for range 500 {
		x := anyTable(r)
		was := api.Table{Types: slices.Clone(x.Types)}
		x.Types = spared(x.Types)
		for i, row := range x.Rows {
			was.Rows = append(was.Rows, slices.Clone(row))
			x.Rows[i] = spared(row)
		}
		x.Rows = spared(x.Rows)
		for _, digits := range []int{2, 7} {
			Table(x, digits)
		}
		holds(t, "Types", x.Types, was.Types)
		if len(x.Rows) != len(was.Rows) {
			t.Fatal("rows were changed")
		}
		for i, row := range x.Rows {
			holds(t, "a row", row, was.Rows[i])
		}
		for _, row := range x.Rows[len(x.Rows):cap(x.Rows)] {
			if row != nil {
				t.Fatal("the room behind the rows was changed")
			}
		}
	}
}

// loose: a text whose bytes can be written over.
func loose(s string) (string, func()) {
	b := []byte(s + " ")
	return unsafe.String(&b[0], len(s)), func() { clear(b) }
}

// What was answered stays, whatever becomes of the texts and lists that were handed in.
func TestMemoryIsNotKept(t *testing.T) {
	name, wipe := loose("A:Bc")
	root, wipeRoot := loose("A")
	key, wipeKey := loose("i1")
	long, wipeLong := loose(strings.Repeat("x", 500))
	columns := []api.Column{column(name, 1, 0)}
	accounts := []api.Account{account(root, api.Income), account(name, api.Income)}
	balances := []api.Balance{balance(name, 1)}
	rows := []api.Posting{posted(name, 5, -1)}
	open := []api.Claim{claim(key, name, 1, 2, 3)}
	answer := single(api.TText, letters(long))
	texts := func() []string {
		a, _ := Trial(columns, 2)
		b, _ := Tree(accounts, balances, 2)
		c, _ := Income(accounts, rows, 1, 9, 2)
		d, _ := Position(accounts, rows, 9, 2)
		e, _ := Statement(name, open, api.Ages{}, 5, 2)
		f, _ := Table(answer, 2)
		return []string{a, b, c, d, e, f}
	}
	got := texts()
	var want []string
	for _, s := range texts() {
		want = append(want, strings.Clone(s))
	}
	clear(columns)
	clear(accounts)
	clear(balances)
	clear(rows)
	clear(open)
	clear(answer.Types)
	clear(answer.Rows)
	wipe()
	wipeRoot()
	wipeKey()
	wipeLong()
	for i := range got {
		if got[i] != want[i] || got[i] == "" {
			t.Errorf("call %d: %q, and behind it %q", i, want[i], got[i])
		}
	}
}

// The same arguments, the same answers, whatever was asked between.
func TestMemoryFromArgumentsAlone(t *testing.T) {
	r := source(32)
	accounts := anyAccounts(r, 8)
	rows := smallRows(r, accounts, 20, 9)
	balances := anyBalances(r, accounts)
	tree, _ := Tree(accounts, balances, 2)
	came, _ := Income(accounts, rows, 2, 7, 2)
	there, _ := Position(accounts, rows, 7, 2)
	for range 50 {
		anyOther := anyAccounts(r, 8)
		Tree(anyOther, anyBalances(r, anyOther), r.IntN(9)-1)
		Income(anyOther, anyRows(r, anyOther, 5, 9), 1, 9, 2)
		a, _ := Tree(accounts, balances, 2)
		b, _ := Income(accounts, rows, 2, 7, 2)
		c, _ := Position(accounts, rows, 7, 2)
		if a != tree || b != came || c != there {
			t.Fatalf("%s%s%s, and behind other calls\n%s%s%s", tree, came, there, a, b, c)
		}
	}
}
