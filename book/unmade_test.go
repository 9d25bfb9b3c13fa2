package book

import (
	"math/rand/v2"
	"reflect"
	"slices"
	"strconv"
	"testing"

	"daybook/api"
)

// unmade: bases that are valid though no events have made them.
func unmade(t *testing.T) map[string]api.Base {
	l := map[string]api.Base{}
	from := func(what string, change func(b *api.Base)) {
		base := rich(t)
		change(&base)
		l[what] = base
	}
	from("events of which nothing is kept", func(b *api.Base) { *b = api.Base{Events: 5} })
	from("as many of them as can be", func(b *api.Base) { *b = api.Base{Events: 1000} })
	from("a lock alone", func(b *api.Base) { *b = api.Base{Events: 1, Lock: 3652059} })
	from("rows on an account that is closed", func(b *api.Base) { addPost(b, 30, "n", line(old, 1), line(old, -1)) })
	from("a void on an account that is closed", func(b *api.Base) { addVoid(b, 30, "n", "o", line(old, -4), line(bank, 4)); addBack(b) })
	from("claims of an account that is closed", func(b *api.Base) {
		addClaim(b, api.KInvoice, 30, "n", line(old, 6), line("Income", -6))
		addClaim(b, api.KPay, 30, "m", line(bank, 6), line(old, -6))
		addAllot(b, 31, "nm", "m", "n", 6)
	})
	from("rows of locked days", func(b *api.Base) { b.Lock = 100 })
	from("all days locked", func(b *api.Base) { b.Lock = api.MaxDay })
	from("keys in another order", func(b *api.Base) { slices.Reverse(b.Keys) })
	from("allotments in another order", func(b *api.Base) { slices.Reverse(b.Allots) })
	from("the first events have rows", func(b *api.Base) { renumber(b, func(i int) int { return i + 1 }) })
	from("the last events have rows", func(b *api.Base) {
		n := len(grouped(b.Rows))
		renumber(b, func(i int) int { return b.Events - n + i + 1 })
	})
	from("gaps between them", func(b *api.Base) { b.Events = 1000; renumber(b, func(i int) int { return 7 + i*i }) })
	from("an account that was closed before it was posted to", func(b *api.Base) {
		addAccount(b, api.Account{Name: "N", Type: 2, Opened: 20, Closed: true})
		addPost(b, api.MaxDay, "n", line("N", 1), line("N", -1))
	})
	from("an account of the last day", func(b *api.Base) { addAccount(b, api.Account{Name: "N", Type: 2, Opened: api.MaxDay}) })
	from("hundred accounts", func(b *api.Base) {
		for i := len(b.Accounts); i < 100; i++ {
			addAccount(b, api.Account{Name: "N" + strconv.Itoa(100+i), Type: 1 + i%5, Opened: 1 + i, Closed: i%3 == 0})
		}
	})
	from("a turnover of 2^63 - 2", func(b *api.Base) {
		n := (api.MaxAmount - (&model{*b}).sizes(nil).Int64()) / 2
		addPost(b, 15, "n", line(bank, n), line("Income", -n))
	})
	return l
}

// addBack: what makes the balance of the old account 0 again.
func addBack(b *api.Base) { addPost(b, 30, "back", line(old, 4), line(bank, -4)) }

// renumber: other numbers for the groups.
func renumber(b *api.Base, number func(i int) int) {
	i, last := -1, 0
	for at := range b.Rows {
		if b.Rows[at].Seq != last {
			i++
		}
		last = b.Rows[at].Seq
		b.Rows[at].Seq = number(i)
	}
}

// TestP7_1Unmade: From takes them all the same, and goes on by the rules.
func TestP7_1Unmade(t *testing.T) {
	events := someEvents()
	for what, base := range unmade(t) {
		t.Run(what, func(t *testing.T) {
			if l := broken(base); len(l) > 0 {
				t.Fatalf("broken: %v", l)
			}
			x := made(t, base)
			alike(t, x.b, x.m)
			for i := 0; i < len(events); i += 7 {
				if got, want := x.b.Check(events[i]), x.m.check(events[i]); got != want {
					t.Fatalf("Check(%+v): %d, want %d", events[i], got, want)
				}
			}
			for n := range uint64(3) {
				walk(made(t, base), source(1000+n), 40)
			}
		})
	}
}

func TestP7_1UnmadeGoesOn(t *testing.T) {
	base := rich(t)
	addPost(&base, 30, "n", line(old, 1), line(old, -1))
	base.Lock = 12
	x := made(t, base)
	x.refuse(api.ErrClosed, void(30, "v2", "n"))
	x.refuse(api.ErrClosed, post(30, "v2", line(old, 1), line(old, -1)))
	x.refuse(api.ErrLocked, void(12, "v2", "x"))
	x.refuse(api.ErrTwice, post(12, "a", line(bank, 1), line(cust, -1)))
	x.refuse(api.ErrEarly, lock(12))
	x.take(void(13, "v2", "x"))
	if rows, why := x.tell(post(13, "v3", line(bank, 1), line(cust, -1))); why != api.OK || rows[0].Seq != base.Events+2 {
		t.Errorf("%v, %d, want the number %d", rows, why, base.Events+2)
	}
}

// spots: each number, text and flag in a base, and each list.
func spots(v reflect.Value, l []reflect.Value) []reflect.Value {
	switch v.Kind() {
	case reflect.Struct:
		for i := range v.NumField() {
			l = spots(v.Field(i), l)
		}
		return l
	case reflect.Slice:
		for i := range v.Len() {
			l = spots(v.Index(i), l)
		}
	}
	return append(l, v)
}

// twist: one of the spots changed a little.
func twist(r *rand.Rand, all []reflect.Value) {
	v := all[r.IntN(len(all))]
	switch v.Kind() {
	case reflect.Int, reflect.Int64:
		v.SetInt(pick(r, v.Int()+1, v.Int()-1, v.Int()+1, v.Int()-1, -v.Int(), 0, 1, greatest, least, r.Int64N(30)))
	case reflect.String:
		other := all[r.IntN(len(all))]
		for other.Kind() != reflect.String {
			other = all[r.IntN(len(all))]
		}
		v.SetString(pick(r, other.String(), other.String(), "", "new", "New"))
	case reflect.Bool:
		v.SetBool(!v.Bool())
	case reflect.Slice:
		twistList(r, v)
	}
}

// twistList: a list with a part less, a part more, or two parts changed for one another.
func twistList(r *rand.Rand, v reflect.Value) {
	if v.Len() == 0 {
		v.Set(reflect.Append(v, reflect.Zero(v.Type().Elem())))
		return
	}
	i, j := r.IntN(v.Len()), r.IntN(v.Len())
	switch r.IntN(3) {
	case 0:
		v.Set(reflect.AppendSlice(v.Slice3(0, i, i), v.Slice(i+1, v.Len())))
	case 1:
		v.Set(reflect.Append(v, v.Index(i)))
	case 2:
		reflect.Swapper(v.Interface())(i, j)
	}
}

// TestP7_1Twisted: bases with something changed are taken just where no rule is broken, and then kept as they are.
func TestP7_1Twisted(t *testing.T) {
	alone, valid := map[int]int{}, 0
	r := source(1)
	bases := slices.Collect(func(yield func(api.Base) bool) {
		for n := range uint64(12) {
			r := source(200 + n)
			x := somehow(t, r)
			walk(x, r, 60)
			base := x.b.Base()
			base.Events += int(n % 3)
			yield(base)
			yield(rich(t))
		}
	})
	for i := range 12000 {
		base := cloned(bases[i%len(bases)])
		for range 1 + r.IntN(2) {
			twist(r, spots(reflect.ValueOf(&base).Elem(), nil))
		}
		l := broken(base)
		if len(l) == 1 {
			alone[l[0]]++
		}
		before := cloned(base)
		b, why := From(base)
		if (why == api.OK) != (len(l) == 0) || (b == nil) != (why != api.OK) || why != api.OK && why != api.ErrBase {
			t.Fatalf("From: %v, %d; broken %v; %+v", b, why, l, base)
		}
		if !same(base, before) {
			t.Fatalf("the base was changed: %+v, before %+v", base, before)
		}
		if why == api.OK {
			valid++
			alike(t, b, &model{base})
		}
	}
	for rule := 1; rule <= 9; rule++ {
		if alone[rule] < 10 {
			t.Errorf("rule %d alone was broken %d times", rule, alone[rule])
		}
	}
	if valid < 200 {
		t.Errorf("only %d were valid", valid)
	}
}
