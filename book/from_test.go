package book

import (
	"slices"
	"strings"
	"testing"

	"daybook/api"
)

const old = "Assets:Old"

// rich: a valid base with all that there can be, and three events of which nothing is kept.
func rich(t *testing.T) api.Base {
	t.Helper()
	noted := post(12, "x", line(bank, 5, "t"), line(cust, -5))
	noted.Memo = "a memo"
	x := toldBooks(t).take(
		open(10, "Debts", api.Liability), open(10, old), open(20, late), lock(11),
		noted, post(12, "y", line(bank, 7), line("Debts", -7, "u")), void(14, "yv", "y"), post(13, "w", line(bank, 1), line(cust, 2), line("Debts", -3)),
		invoice(12, "i", cust, "Income", 42, 1000), pay(12, "p", cust, bank, 600), invoice(13, "j", bank, "Income", 13, 50), pay(14, "q", cust, bank, 40), pay(13, "pb", bank, "Assets", 20),
		post(12, "o", line(old, 4), line(bank, -4)), post(12, "ov", line(old, 3), line(bank, -3)), void(15, "v", "ov"), pay(15, "po", old, bank, 8), invoice(15, "io", old, "Income", 15, 8),
		post(15, "o2", line(old, -4), line(bank, 4)), allot(15, "ao", "po", "io", 8), shut(15, old), allot(12, "a", "p", "i", 100), allot(13, "a2", "p", "i", 300),
	)
	base := x.b.Base()
	base.Events += 3
	return base
}

// rowsAt: the rows of the group with that key.
func rowsAt(b *api.Base, key string) (l []*api.Posting) {
	for i := range b.Rows {
		if b.Rows[i].Key == key {
			l = append(l, &b.Rows[i])
		}
	}
	return l
}

func entryAt(b *api.Base, key string) *api.Entry { return (&model{*b}).entry(key) }

func claimAt(l []api.Claim, key string) *api.Claim {
	return &l[slices.IndexFunc(l, func(c api.Claim) bool { return c.Key == key })]
}

// addGroup: rows behind all others, and their key.
func addGroup(b *api.Base, kind, day int, key string, lines []api.Line) {
	b.Events++
	b.Keys = append(b.Keys, key)
	for i, l := range lines {
		b.Rows = append(b.Rows, api.Posting{Seq: b.Events, Line: i + 1, Day: day, Kind: kind, Key: key, Account: l.Account, Amount: l.Amount, Tag: l.Tag})
	}
}

func addPost(b *api.Base, day int, key string, lines ...api.Line) {
	addGroup(b, api.KPost, day, key, lines)
	b.Entries = append(b.Entries, api.Entry{Key: key, Day: day, Lines: lines})
}

func addVoid(b *api.Base, day int, key, of string, lines ...api.Line) {
	addGroup(b, api.KVoid, day, key, lines)
	if of != "" {
		entryAt(b, of).Void = key
	}
}

// addClaim: an invoice or a payment as these rows tell it.
func addClaim(b *api.Base, kind, day int, key string, lines ...api.Line) {
	addGroup(b, kind, day, key, lines)
	c := api.Claim{Key: key, Account: lines[0].Account, Day: day, Due: day, Amount: lines[0].Amount}
	if kind == api.KInvoice {
		b.Invoices = append(b.Invoices, c)
		return
	}
	c.Account, c.Due = lines[1].Account, 0
	b.Payments = append(b.Payments, c)
}

func addAllot(b *api.Base, day int, key, from, to string, amount int64) {
	b.Events++
	b.Keys = append(b.Keys, key)
	b.Allots = append(b.Allots, api.Allot{Pay: from, Invoice: to, Day: day, Amount: amount})
}

func addAccount(b *api.Base, a api.Account) {
	b.Events += 2
	b.Accounts = append(b.Accounts, a)
}

// setLines: other lines of a posting that is there, in its rows and in its entry.
func setLines(b *api.Base, key string, change func(l *api.Line)) {
	e := entryAt(b, key)
	for i, row := range rowsAt(b, key) {
		change(&e.Lines[i])
		row.Account, row.Amount, row.Tag = e.Lines[i].Account, e.Lines[i].Amount, e.Lines[i].Tag
	}
}

// wrong: a change that breaks one rule.
type wrong struct {
	what   string
	change func(b *api.Base)
}

// hold: each of the changes breaks that rule and no other, and From sees it.
func hold(t *testing.T, rule int, l []wrong) {
	t.Helper()
	for _, w := range l {
		base := rich(t)
		w.change(&base)
		if got := broken(base); !slices.Equal(got, []int{rule}) {
			t.Errorf("rule %d, %s: the model says that %v are broken", rule, w.what, got)
		}
		refusedBase(t, base, w.what)
	}
}

func refusedBase(t *testing.T, base api.Base, what string) {
	t.Helper()
	before := cloned(base)
	if b, why := From(base); b != nil || why != api.ErrBase {
		t.Errorf("%s: From: %v, %d", what, b, why)
	}
	if !same(base, before) {
		t.Errorf("%s: the base was changed", what)
	}
}

func TestP7_1Rich(t *testing.T) {
	base := rich(t)
	x := made(t, base)
	alike(t, x.b, x.m)
	if l := broken(base); len(l) > 0 {
		t.Errorf("broken: %v", l)
	}
}

func TestP7_1Rule1(t *testing.T) {
	hold(t, 1, []wrong{
		{"1001 events", func(b *api.Base) { b.Events = 1001 }},
		{"more events", func(b *api.Base) { b.Events = greatest }},
		{"Lock below 0", func(b *api.Base) { b.Lock = -1 }},
		{"the least Lock", func(b *api.Base) { b.Lock = least }},
		{"Lock behind the last day", func(b *api.Base) { b.Lock = 3652060 }},
		{"Lock of more than 32 bits", func(b *api.Base) { b.Lock = 1<<32 + 5 }},
	})
	for _, n := range []int{-1, least} { // which is less than any number of accounts, too
		refusedBase(t, api.Base{Events: n}, "events below 0")
	}
}

func TestP7_1Rule2(t *testing.T) {
	set := func(key string) func(b *api.Base) {
		return func(b *api.Base) { b.Keys[slices.Index(b.Keys, "a")] = key }
	}
	hold(t, 2, []wrong{
		{"the empty key", set("")},
		{"a long key", set(strings.Repeat("k", 25))},
		{"a key with a blank", set("a b")},
		{"a key with a colon", set("a:b")},
		{"a key beyond ASCII", set("ä")},
		{"an allotment's key twice", set("a2")},
		{"a group's key twice", set("x")},
		{"a key too many", func(b *api.Base) { b.Keys = append(b.Keys, "more") }},
		{"a key too few", func(b *api.Base) { b.Keys = slices.DeleteFunc(b.Keys, func(k string) bool { return k == "a" }) }},
	})
}

func TestP7_1Rule3(t *testing.T) {
	add := func(l ...api.Account) func(b *api.Base) {
		return func(b *api.Base) {
			for _, a := range l {
				addAccount(b, a)
			}
		}
	}
	hold(t, 3, []wrong{
		{"no parent", add(api.Account{Name: "N:O", Type: 1, Opened: 10})},
		{"no name", add(api.Account{Name: "n", Type: 1, Opened: 10})},
		{"not rising", add(api.Account{Name: "A", Type: 1, Opened: 10})},
		{"twice", add(api.Account{Name: "N", Type: 1, Opened: 10}, api.Account{Name: "N", Type: 1, Opened: 10})},
		{"no type", add(api.Account{Name: "N", Opened: 10})},
		{"no day", add(api.Account{Name: "N", Type: 1})},
		{"another type", add(api.Account{Name: "N", Type: 1, Opened: 10}, api.Account{Name: "N:O", Type: 2, Opened: 10})},
		{"ahead of its parent", add(api.Account{Name: "N", Type: 1, Opened: 10}, api.Account{Name: "N:O", Type: 1, Opened: 9})},
		{"open below a closed one", add(api.Account{Name: "N", Type: 1, Opened: 10, Closed: true}, api.Account{Name: "N:O", Type: 1, Opened: 10})},
		{"an event too few", func(b *api.Base) { b.Events -= 4 }},
	})
}

// TestP7_1Rule3Counts: the least number of events with which a base is valid, and one less.
func TestP7_1Rule3Counts(t *testing.T) {
	key := []string{"i", "p", "a"}
	for _, x := range []struct {
		least int
		base  api.Base
	}{
		{0, api.Base{}},
		{1, api.Base{Lock: 5}},
		{1, api.Base{Accounts: []api.Account{{Name: "A", Type: 1, Opened: 1}}}},
		{2, api.Base{Accounts: []api.Account{{Name: "A", Type: 1, Opened: 1, Closed: true}}}},
		{3, api.Base{Lock: 5, Accounts: []api.Account{{Name: "A", Type: 1, Opened: 1, Closed: true}}}},
		{5, api.Base{Accounts: []api.Account{{Name: "A", Type: 1, Opened: 1, Closed: true}, {Name: "A:B", Type: 1, Opened: 1, Closed: true}, {Name: "C", Type: 4, Opened: 1}}}},
		{7, api.Base{Lock: 5, Keys: key, Accounts: []api.Account{{Name: "A", Type: 1, Opened: 1}, {Name: "B", Type: 1, Opened: 1}, {Name: "I", Type: 4, Opened: 1}}, Rows: []api.Posting{
			row(1, 1, 1, 5, "i", "A", 7), row(1, 2, 1, 5, "i", "I", -7), row(2, 1, 1, 6, "p", "B", 7), row(2, 2, 1, 6, "p", "A", -7)},
			Invoices: []api.Claim{{Key: "i", Account: "A", Day: 1, Due: 1, Amount: 7}}, Payments: []api.Claim{{Key: "p", Account: "A", Day: 1, Amount: 7}}, Allots: []api.Allot{{Pay: "p", Invoice: "i", Day: 1, Amount: 7}}}},
	} {
		for _, n := range []int{x.least, x.least + 1, 999, 1000} {
			x.base.Events = n
			y := made(t, x.base)
			alike(t, y.b, y.m)
		}
		x.base.Events = x.least - 1
		if l := broken(x.base); !slices.Contains(l, 3) {
			t.Errorf("%+v: broken %v", x.base, l)
		}
		refusedBase(t, x.base, "an event too few")
	}
}

func TestP7_1Rule4(t *testing.T) {
	last := func(b *api.Base) *api.Posting { return &b.Rows[len(b.Rows)-1] }
	hold(t, 4, []wrong{
		{"groups in another order", func(b *api.Base) { b.Rows = slices.Concat(b.Rows[2:4], b.Rows[:2], b.Rows[4:]); swapEntries(b) }},
		{"Seqs falling", func(b *api.Base) { s, t := rowsAt(b, "w"), rowsAt(b, "i"); swapSeqs(s, t) }},
		{"rows of two groups mixed", func(b *api.Base) { b.Rows[1], b.Rows[2] = b.Rows[2], b.Rows[1] }},
		{"Seq 0", func(b *api.Base) { b.Rows[0].Seq, b.Rows[1].Seq = 0, 0 }},
		{"Seq below 0", func(b *api.Base) { b.Rows[0].Seq, b.Rows[1].Seq = least, least }},
		{"Seq above Events", func(b *api.Base) { last(b).Seq, b.Rows[len(b.Rows)-2].Seq = b.Events+1, b.Events+1 }},
		{"two groups of one Seq", func(b *api.Base) {
			addPost(b, 15, "n1", line(bank, 1), line(cust, -1))
			addAllot(b, 15, "n2", "p", "i", 1)
			b.Events--
			b.Rows = append(b.Rows, row(b.Events, 3, 15, 3, "n2", bank, 1), row(b.Events, 4, 15, 3, "n2", cust, -1))
			entryAt(b, "n1").Lines = []api.Line{line(bank, 1), line(cust, -1), line(bank, 1), line(cust, -1)}
		}},
		{"Lines from 0", func(b *api.Base) { b.Rows[0].Line, b.Rows[1].Line = 0, 1 }},
		{"Lines from 2", func(b *api.Base) { b.Rows[0].Line, b.Rows[1].Line = 2, 3 }},
		{"a Line twice", func(b *api.Base) { b.Rows[1].Line = 1 }},
		{"a Line left out", func(b *api.Base) { rowsAt(b, "w")[2].Line = 4 }},
		{"Lines falling", func(b *api.Base) { b.Rows[0].Line, b.Rows[1].Line = 2, 1 }},
		{"another Day in a group", func(b *api.Base) { b.Rows[1].Day++ }},
		{"another Kind in a group", func(b *api.Base) { b.Rows[1].Kind = api.KVoid }},
		{"another Key in a group", func(b *api.Base) { b.Rows[1].Key = "a" }},
		{"another Memo in a group", func(b *api.Base) { b.Rows[1].Memo = "another" }},
		{"no Memo in a group's last row", func(b *api.Base) { b.Rows[1].Memo = "" }},
		{"a Memo with a quote", func(b *api.Base) { b.Rows[0].Memo, b.Rows[1].Memo = `"`, `"` }},
		{"a Memo with a byte 10", func(b *api.Base) { b.Rows[0].Memo, b.Rows[1].Memo = "\n", "\n" }},
		{"a Memo of 81 bytes", func(b *api.Base) { m := strings.Repeat("m", 81); b.Rows[0].Memo, b.Rows[1].Memo = m, m }},
		{"a Day behind the last one", func(b *api.Base) { setDay(b, "x", 3652060) }},
		{"the greatest Day", func(b *api.Base) { setDay(b, "x", greatest) }},
		{"Day 0", func(b *api.Base) { setDay(b, "x", 0) }},
		{"a Key that is none of Keys", func(b *api.Base) { setKey(b, "x", "n") }},
		{"no Key", func(b *api.Base) { setKey(b, "x", "") }},
		{"the Key of another group", func(b *api.Base) { setKey(b, "x", "w") }},
		{"the Key of an invoice", func(b *api.Base) { setKey(b, "x", "j") }},
		{"an account that is not there", func(b *api.Base) { setLines(b, "x", func(l *api.Line) { l.Account = "Nobody" }) }},
		{"an empty account", func(b *api.Base) { setLines(b, "x", func(l *api.Line) { l.Account = "" }) }},
		{"a later account", func(b *api.Base) { setLines(b, "x", func(l *api.Line) { l.Account = late }) }},
		{"an account of the day behind", func(b *api.Base) { addPost(b, 19, "n", line(late, 1), line(bank, -1)) }},
		{"the Amount 0", func(b *api.Base) { addPost(b, 15, "n", line(bank, 1), line(cust, -1), line(bank, 0)) }},
		{"the least Amount", func(b *api.Base) {
			addPost(b, 15, "n", line(bank, least), line(cust, 1<<62), line(cust, 1<<62))
		}},
		{"a tag with a capital", func(b *api.Base) { setLines(b, "x", func(l *api.Line) { l.Tag = "T" }) }},
		{"a tag of 17 bytes", func(b *api.Base) { setLines(b, "x", func(l *api.Line) { l.Tag = strings.Repeat("t", 17) }) }},
		{"a sum that is not 0", func(b *api.Base) { setLines(b, "x", func(l *api.Line) { l.Amount++ }) }},
		{"a sum that wraps round to 0", func(b *api.Base) {
			addPost(b, 15, "n", line(bank, 1<<62), line(bank, 1<<62), line(bank, 1<<62), line(cust, 1<<62))
		}},
		{"the turnover at 2^63", func(b *api.Base) {
			n := int64(1<<62) - (&model{*b}).sizes(nil).Int64()/2
			addPost(b, 15, "n", line(bank, n), line(cust, -n))
		}},
		{"a turnover that wraps round", func(b *api.Base) {
			addPost(b, 15, "n", line(bank, greatest), line(bank, -greatest), line(bank, greatest), line(cust, -greatest))
		}},
	})
}

// TestP7_1RowAlone: it breaks rule 4, whose sum is not 0, and rule 5.
func TestP7_1RowAlone(t *testing.T) {
	for kind := range 10 {
		for _, amount := range []int64{1, -1, 0} {
			base := rich(t)
			addGroup(&base, kind, 15, "n", []api.Line{line(bank, amount)})
			base.Entries = append(base.Entries, api.Entry{Key: "n", Day: 15, Lines: []api.Line{line(bank, amount)}})
			refusedBase(t, base, "a row alone")
		}
	}
}

// TestP7_1Stray: rows of which nothing else in the base knows.
func TestP7_1Stray(t *testing.T) {
	for kind := -1; kind < 10; kind++ {
		for _, lines := range [][]api.Line{{line(bank, 1), line(cust, -1)}, {line(cust, 1), line("Income", -1)}, {line(bank, 1), line(cust, -2)}, {line("Nobody", 1), line(cust, -1)}, {line(bank, 1<<62), line(cust, -1<<62)}} {
			for missing := range 3 { // no key, that of the rows, that of an allotment
				base := rich(t)
				if missing == 2 {
					addAllot(&base, 15, "na", "p", "i", 1)
					base.Keys = base.Keys[:len(base.Keys)-1]
				}
				addGroup(&base, kind, 15, "n", lines)
				if missing == 1 {
					base.Keys = base.Keys[:len(base.Keys)-1]
				}
				refusedBase(t, base, "stray rows")
			}
		}
	}
}

func swapEntries(b *api.Base) { b.Entries[0], b.Entries[1] = b.Entries[1], b.Entries[0] }

func swapSeqs(s, t []*api.Posting) {
	n, m := s[0].Seq, t[0].Seq
	for _, row := range s {
		row.Seq = m
	}
	for _, row := range t {
		row.Seq = n
	}
}

func setDay(b *api.Base, key string, day int) {
	for _, row := range rowsAt(b, key) {
		row.Day = day
	}
	entryAt(b, key).Day = day
}

func setKey(b *api.Base, key, to string) {
	for _, row := range rowsAt(b, key) {
		row.Key = to
	}
	entryAt(b, key).Key = to
}

func TestP7_1Rule5(t *testing.T) {
	many := slices.Repeat([]api.Line{line(bank, 1), line(cust, -1)}, 6)
	more := append(slices.Clone(many), line(bank, 1))
	more[11].Amount = -2
	backs := opposed(more)
	kind := func(n int) func(b *api.Base) {
		return func(b *api.Base) { addGroup(b, n, 15, "n", []api.Line{line(bank, 1), line(cust, -1)}) }
	}
	claim := func(kind int, l ...api.Line) func(b *api.Base) {
		return func(b *api.Base) { addClaim(b, kind, 15, "n", l...) }
	}
	hold(t, 5, []wrong{
		{"Kind 0", kind(0)}, {"KOpen", kind(api.KOpen)}, {"KClose", kind(api.KClose)}, {"KAllot", kind(api.KAllot)}, {"KLock", kind(api.KLock)},
		{"Kind 9", kind(9)}, {"Kind -1", kind(-1)}, {"the least Kind", kind(least)}, {"the greatest Kind", kind(greatest)}, {"a Kind of more than 32 bits", kind(1<<32 + 3)},
		{"a posting of 13 rows", func(b *api.Base) { addPost(b, 15, "n", more...) }},
		{"a posting of 13 rows and its void", func(b *api.Base) { addPost(b, 15, "n", more...); addVoid(b, 15, "nv", "n", backs...) }},
		{"an invoice of three rows", claim(api.KInvoice, line(cust, 2), line("Income", -1), line("Income", -1))},
		{"an invoice with a tag", claim(api.KInvoice, line(cust, 2, "t"), line("Income", -2))},
		{"an invoice with a tag behind", claim(api.KInvoice, line(cust, 2), line("Income", -2, "t"))},
		{"an invoice the other way round", claim(api.KInvoice, line("Income", 2), line(cust, -2))},
		{"an invoice on one account", claim(api.KInvoice, line(cust, 2), line(cust, -2))},
		{"an invoice below 0", claim(api.KInvoice, line(cust, -2), line("Income", 2))},
		{"an invoice of a debt", claim(api.KInvoice, line("Debts", 2), line("Income", -2))},
		{"an invoice for a debt", claim(api.KInvoice, line(cust, 2), line("Debts", -2))},
		{"an invoice for an asset", claim(api.KInvoice, line(cust, 2), line(bank, -2))},
		{"a payment of three rows", claim(api.KPay, line(bank, 2), line(cust, -1), line(cust, -1))},
		{"a payment with a tag", claim(api.KPay, line(bank, 2, "t"), line(cust, -2))},
		{"a payment with a tag behind", claim(api.KPay, line(bank, 2), line(cust, -2, "t"))},
		{"a payment on one account", claim(api.KPay, line(cust, 2), line(cust, -2))},
		{"a payment below 0", claim(api.KPay, line(bank, -2), line(cust, 2))},
		{"a payment to income", claim(api.KPay, line("Income", 2), line(cust, -2))},
		{"a payment by income", claim(api.KPay, line(bank, 2), line("Income", -2))},
		{"a payment by a debt", claim(api.KPay, line(bank, 2), line("Debts", -2))},
	})
	base := rich(t)
	addPost(&base, 15, "n", many...)
	addVoid(&base, 15, "nv", "n", opposed(many)...)
	x := made(t, base)
	alike(t, x.b, x.m)
}

func opposed(l []api.Line) []api.Line {
	l = slices.Clone(l)
	for i := range l {
		l[i].Amount *= -1
	}
	return l
}

func TestP7_1Rule6(t *testing.T) {
	entry := func(key string, change func(e *api.Entry)) func(b *api.Base) {
		return func(b *api.Base) { change(entryAt(b, key)) }
	}
	voided := func(day int, l ...api.Line) func(b *api.Base) {
		return func(b *api.Base) { addVoid(b, day, "n", "w", l...) }
	}
	hold(t, 6, []wrong{
		{"an entry too few", func(b *api.Base) { b.Entries = b.Entries[:len(b.Entries)-1] }},
		{"no entries", func(b *api.Base) { b.Entries = nil }},
		{"the first entry left out", func(b *api.Base) { b.Entries = b.Entries[1:] }},
		{"an entry too many", func(b *api.Base) { b.Entries = append(b.Entries, b.Entries[0]) }},
		{"an empty entry too many", func(b *api.Base) { b.Entries = append(b.Entries, api.Entry{}) }},
		{"entries in another order", swapEntries},
		{"another Key", entry("x", func(e *api.Entry) { e.Key = "n" })},
		{"another group's Key", entry("x", func(e *api.Entry) { e.Key = "w" })},
		{"a later Day", entry("x", func(e *api.Entry) { e.Day++ })},
		{"an earlier Day", entry("x", func(e *api.Entry) { e.Day-- })},
		{"no lines", entry("x", func(e *api.Entry) { e.Lines = nil })},
		{"a line too few", entry("w", func(e *api.Entry) { e.Lines = e.Lines[:2] })},
		{"a line too many", entry("x", func(e *api.Entry) { e.Lines = append(e.Lines, line(bank, 1)) })},
		{"another line's account", entry("x", func(e *api.Entry) { e.Lines[1].Account = bank })},
		{"another line's amount", entry("x", func(e *api.Entry) { e.Lines[1].Amount-- })},
		{"another line's tag", entry("x", func(e *api.Entry) { e.Lines[0].Tag = "u" })},
		{"no tag", entry("x", func(e *api.Entry) { e.Lines[0].Tag = "" })},
		{"lines in another order", entry("x", func(e *api.Entry) { slices.Reverse(e.Lines) })},
		{"a Void that is no Key", entry("x", func(e *api.Entry) { e.Void = "nobody" })},
		{"a Void that is a posting's", entry("x", func(e *api.Entry) { e.Void = "w" })},
		{"a Void that is its own", entry("x", func(e *api.Entry) { e.Void = "x" })},
		{"a Void that is an allotment's", entry("x", func(e *api.Entry) { e.Void = "a" })},
		{"a Void that is another one's, too", entry("x", func(e *api.Entry) { e.Void = "yv" })},
		{"a Void left out", entry("y", func(e *api.Entry) { e.Void = "" })},
		{"a Void of other lines", func(b *api.Base) { entryAt(b, "y").Void = ""; entryAt(b, "x").Void = "yv" }},
		{"two Voids changed for one another", func(b *api.Base) { entryAt(b, "y").Void = "v"; entryAt(b, "ov").Void = "yv" }},
		{"one Void of two alike", func(b *api.Base) {
			addPost(b, 15, "n", line(bank, 1), line(cust, -1))
			addPost(b, 15, "m", line(bank, 1), line(cust, -1))
			addVoid(b, 15, "nv", "n", line(bank, -1), line(cust, 1))
			entryAt(b, "m").Void = "nv"
		}},
		{"a Void of nothing", func(b *api.Base) { addVoid(b, 15, "n", "", line(bank, -1), line(cust, 1)) }},
		{"a Void ahead", func(b *api.Base) {
			addVoid(b, 15, "nv", "", line(bank, -1), line(cust, 1))
			addPost(b, 15, "n", line(bank, 1), line(cust, -1))
			entryAt(b, "n").Void = "nv"
		}},
		{"a Void of the day before", voided(12, line(bank, -1), line(cust, -2), line("Debts", 3))},
		{"a Void with the same amounts", voided(13, line(bank, 1), line(cust, 2), line("Debts", -3))},
		{"a Void with other amounts", voided(13, line(bank, -2), line(cust, -1), line("Debts", 3))},
		{"a Void with another account", voided(13, line(cust, -1), line(cust, -2), line("Debts", 3))},
		{"a Void with a tag", voided(13, line(bank, -1, "t"), line(cust, -2), line("Debts", 3))},
		{"a Void in another order", voided(13, line("Debts", 3), line(bank, -1), line(cust, -2))},
		{"a Void with a line less", voided(13, line(bank, -3), line("Debts", 3))},
		{"a Void with a line more", voided(13, line(bank, -1), line(cust, -2), line("Debts", 3), line(bank, 1), line(bank, -1))},
	})
	for _, day := range []int{13, 14, api.MaxDay} {
		base := rich(t)
		voided(day, line(bank, -1), line(cust, -2), line("Debts", 3))(&base)
		x := made(t, base)
		alike(t, x.b, x.m)
	}
}

func TestP7_1Rule7(t *testing.T) {
	var l []wrong
	claims := func(what string, change func(b *api.Base, invoices, payments *[]api.Claim)) {
		l = append(l, wrong{what, func(b *api.Base) { change(b, &b.Invoices, &b.Payments) }})
	}
	one := func(what, invoice, payment string, change func(c *api.Claim)) {
		if invoice != "" {
			l = append(l, wrong{"an invoice's " + what, func(b *api.Base) { change(claimAt(b.Invoices, invoice)) }})
		}
		if payment != "" {
			l = append(l, wrong{"a payment's " + what, func(b *api.Base) { change(claimAt(b.Payments, payment)) }})
		}
	}
	claims("an invoice too few", func(b *api.Base, i, p *[]api.Claim) { *i = slices.Delete(*i, 1, 2) })
	claims("an invoice too many", func(b *api.Base, i, p *[]api.Claim) { *i = append(*i, (*i)[1]) })
	claims("an empty invoice too many", func(b *api.Base, i, p *[]api.Claim) { *i = append(*i, api.Claim{}) })
	claims("invoices in another order", func(b *api.Base, i, p *[]api.Claim) { slices.Reverse(*i) })
	claims("the last invoice left out", func(b *api.Base, i, p *[]api.Claim) {
		addClaim(b, api.KInvoice, 15, "n", line(cust, 2), line("Income", -2))
		*i = (*i)[:len(*i)-1]
	})
	claims("the last payment left out", func(b *api.Base, i, p *[]api.Claim) {
		addClaim(b, api.KPay, 15, "n", line(bank, 2), line(cust, -2))
		*p = (*p)[:len(*p)-1]
	})
	claims("a payment too few", func(b *api.Base, i, p *[]api.Claim) { *p = slices.Delete(*p, 1, 2) })
	claims("a payment too many", func(b *api.Base, i, p *[]api.Claim) { *p = append(*p, (*p)[1]) })
	claims("an empty payment too many", func(b *api.Base, i, p *[]api.Claim) { *p = append(*p, api.Claim{}) })
	claims("payments in another order", func(b *api.Base, i, p *[]api.Claim) { slices.Reverse(*p) })
	one("Key", "j", "q", func(c *api.Claim) { c.Key = "n" })
	one("empty Key", "j", "q", func(c *api.Claim) { c.Key = "" })
	one("Account", "j", "q", func(c *api.Claim) { c.Account = "Assets" })
	one("other row's Account", "j", "", func(c *api.Claim) { c.Account = "Income" })
	one("other row's Account", "", "q", func(c *api.Claim) { c.Account = bank })
	one("later Day", "j", "", func(c *api.Claim) { c.Day++; c.Due++ })
	one("later Day", "", "q", func(c *api.Claim) { c.Day++ })
	one("earlier Day", "j", "q", func(c *api.Claim) { c.Day-- })
	one("greater Amount", "j", "q", func(c *api.Claim) { c.Amount++ })
	one("smaller Amount", "j", "q", func(c *api.Claim) { c.Amount-- })
	one("opposite Amount", "j", "q", func(c *api.Claim) { c.Amount = -c.Amount })
	for _, due := range []int{least, -1, 0, 12, 3652060, greatest} {
		one("Due", "j", "", func(c *api.Claim) { c.Due = due })
	}
	for _, due := range []int{least, -1, 1, 14, 15, greatest} {
		one("Due", "", "q", func(c *api.Claim) { c.Due = due })
	}
	hold(t, 7, l)
	for _, due := range []int{13, 14, 3652059} {
		base := rich(t)
		claimAt(base.Invoices, "j").Due = due
		x := made(t, base)
		alike(t, x.b, x.m)
	}
}

func TestP7_1Rule8(t *testing.T) {
	add := func(day int, from, to string, amounts ...int64) func(b *api.Base) {
		return func(b *api.Base) {
			for i, n := range amounts {
				addAllot(b, day, "n"+string(rune('a'+i)), from, to, n)
			}
		}
	}
	hold(t, 8, []wrong{
		{"no such payment", add(15, "nobody", "i", 1)}, {"no such invoice", add(15, "p", "nobody", 1)}, {"no payment's key", add(15, "", "i", 1)}, {"no invoice's key", add(15, "p", "", 1)},
		{"an invoice as payment", add(15, "i", "i", 1)}, {"a payment as invoice", add(15, "p", "p", 1)}, {"changed for one another", add(15, "i", "p", 1)},
		{"a posting as payment", add(15, "x", "i", 1)}, {"a posting as invoice", add(15, "p", "x", 1)}, {"of two accounts", add(15, "p", "j", 1)}, {"of two accounts, the other way", add(15, "pb", "i", 1)},
		{"Day 0", add(0, "p", "i", 1)}, {"the least Day", add(least, "p", "i", 1)}, {"a Day behind the last one", add(3652060, "p", "i", 1)}, {"the greatest Day", add(greatest, "p", "i", 1)},
		{"a Day before both", add(11, "p", "i", 1)}, {"a Day before the payment's", add(13, "q", "i", 1)}, {"a Day before the invoice's", func(b *api.Base) {
			addClaim(b, api.KInvoice, 16, "n", line(cust, 5), line("Income", -5))
			addAllot(b, 15, "m", "p", "n", 1)
		}},
		{"the Amount 0", add(15, "p", "i", 0)}, {"an Amount below 0", add(15, "p", "i", -1)}, {"the least Amount", add(15, "p", "i", least)},
		{"more than is left of the payment", add(15, "p", "i", 201)}, {"more than the payment, in two", add(15, "p", "i", 200, 1)}, {"more than the payment", add(15, "q", "i", 41)},
		{"more than is left of the invoice", func(b *api.Base) {
			addClaim(b, api.KPay, 15, "n", line(bank, 5000), line(cust, -5000))
			addAllot(b, 15, "m", "n", "i", 601)
		}},
		{"more than the invoice, of two payments", func(b *api.Base) {
			addClaim(b, api.KPay, 15, "n", line(bank, 600), line(cust, -600))
			add(15, "n", "i", 401)(b)
			addAllot(b, 15, "m", "p", "i", 200)
		}},
		{"far more", add(15, "p", "i", greatest)}, {"a sum that wraps round", add(15, "p", "i", greatest, greatest, 2)},
	})
	for _, f := range []func(b *api.Base){add(12, "p", "i", 200), add(12, "p", "i", 1, 199), add(14, "q", "i", 40), add(api.MaxDay, "q", "i", 39), add(13, "pb", "j", 20)} {
		base := rich(t)
		f(&base)
		x := made(t, base)
		alike(t, x.b, x.m)
	}
}

func TestP7_1Rule9(t *testing.T) {
	closed := func(lines ...api.Line) func(b *api.Base) {
		return func(b *api.Base) {
			addAccount(b, api.Account{Name: "N", Type: 1, Opened: 10, Closed: true})
			if len(lines) > 0 {
				addPost(b, 15, "n", lines...)
			}
		}
	}
	hold(t, 9, []wrong{
		{"a debit", closed(line("N", 1), line(bank, -1))}, {"a credit", closed(line("N", -1), line(bank, 1))}, {"several rows", closed(line("N", 5), line(bank, -1), line("N", -4))},
		{"an invoice with all left", func(b *api.Base) {
			closed(line("N", -6), line(bank, 6))(b)
			addClaim(b, api.KInvoice, 15, "ni", line("N", 6), line("Income", -6))
		}},
		{"a payment with all left", func(b *api.Base) {
			closed(line("N", 6), line(bank, -6))(b)
			addClaim(b, api.KPay, 15, "np", line(bank, 6), line("N", -6))
		}},
		{"both with all left", func(b *api.Base) {
			closed()(b)
			addClaim(b, api.KInvoice, 15, "ni", line("N", 6), line("Income", -6))
			addClaim(b, api.KPay, 15, "np", line(bank, 6), line("N", -6))
		}},
		{"both with some left", func(b *api.Base) {
			closed()(b)
			addClaim(b, api.KInvoice, 15, "ni", line("N", 6), line("Income", -6))
			addClaim(b, api.KPay, 15, "np", line(bank, 6), line("N", -6))
			addAllot(b, 15, "na", "np", "ni", 5)
		}},
		{"one of two invoices with something left", func(b *api.Base) {
			closed(line("N", -1), line(bank, 1))(b)
			addClaim(b, api.KInvoice, 15, "ni", line("N", 6), line("Income", -6))
			addClaim(b, api.KPay, 15, "np", line(bank, 5), line("N", -5))
			addAllot(b, 15, "na", "np", "ni", 5)
		}},
		{"the old account's allotment left out", func(b *api.Base) {
			b.Allots = slices.DeleteFunc(b.Allots, func(a api.Allot) bool { return a.Pay == "po" })
			b.Keys = slices.DeleteFunc(b.Keys, func(k string) bool { return k == "ao" })
		}},
	})
	for _, f := range []func(b *api.Base){closed(), closed(line("N", 1), line("N", -1)), closed(line("N", 5), line("N", -1), line("N", -4))} {
		base := rich(t)
		f(&base)
		x := made(t, base)
		alike(t, x.b, x.m)
	}
}
