package aged

import (
	"math/rand/v2"
	"slices"
	"strconv"
	"testing"

	"daybook/api"
)

var (
	walkAccounts = []string{"", "ann", "an", "bob", "\xff"}
	walkDays     = []int{firstDay, 2, d - 95, d - 61, d - 31, d - 30, d - 1, d, d + 1, d + 29, d + 30, d + 31, d + 60, d + 61, d + 90, d + 91, d + 92, d + 130, lastDay - 1, lastDay}
)

func anyDay(r *rand.Rand) int {
	if r.IntN(40) == 0 {
		return badDays()[r.IntN(len(badDays()))]
	}
	if r.IntN(3) == 0 {
		return d - 100 + r.IntN(250)
	}
	return walkDays[r.IntN(len(walkDays))]
}

func anyAmount(r *rand.Rand) int64 {
	switch r.IntN(10) {
	case 0:
		return []int64{0, -1, least, most}[r.IntN(4)]
	case 1, 2:
		return r.Int64() >> r.IntN(4)
	}
	return int64(1 + r.IntN(50))
}

func anyClaim(r *rand.Rand) api.Claim {
	day := anyDay(r)
	due := day
	if r.IntN(2) == 0 {
		due = anyDay(r)
		if r.IntN(5) > 0 {
			due = max(due, day)
		}
	}
	return inv(strconv.Itoa(r.IntN(25)), walkAccounts[r.IntN(len(walkAccounts))], day, due, anyAmount(r))
}

// anyAllot: mostly of a claim that is there, often of all that is left of it or one more.
func anyAllot(r *rand.Rand, m model) api.Allot {
	x := alt(strconv.Itoa(r.IntN(3)), strconv.Itoa(r.IntN(14)), anyDay(r), anyAmount(r))
	if len(m.claims) > 0 && r.IntN(5) > 0 {
		c := m.claims[r.IntN(len(m.claims))]
		x.Invoice = c.Key
		if r.IntN(2) == 0 {
			x.Day = max(x.Day, c.Day)
		}
		switch left := m.left(c); r.IntN(6) {
		case 0:
			x.Amount = left
		case 1:
			x.Amount = left + 1
		case 2, 3:
			x.Amount = left/2 + 1
		}
	}
	return x
}

// call: one of the three that change something.
type call struct {
	invoice *api.Claim
	allot   *api.Allot
	day     int
}

func (c call) on(a *Aged) api.Errno {
	switch {
	case c.invoice != nil:
		return a.Invoice(*c.invoice)
	case c.allot != nil:
		return a.Allot(*c.allot)
	}
	return a.Advance(c.day)
}

func (c call) onModel(m *model) api.Errno {
	switch {
	case c.invoice != nil:
		return m.invoice(*c.invoice)
	case c.allot != nil:
		return m.allot(*c.allot)
	}
	return m.advance(c.day)
}

// tell makes a call on a view and its model.
func (x *both) tell(c call) api.Errno {
	x.t.Helper()
	return x.told(c, c.on(x.a), c.onModel(&x.m))
}

func anyCall(r *rand.Rand, m model) call {
	switch n := r.IntN(10); {
	case n < 4:
		c := anyClaim(r)
		return call{invoice: &c}
	case n < 8:
		y := anyAllot(r, m)
		return call{allot: &y}
	}
	day := anyDay(r)
	if r.IntN(2) == 0 {
		day = m.day + r.IntN(35)
	}
	if day > d+200 && r.IntN(8) > 0 { // or all walks would soon be at the last day
		day = d - 100
	}
	return call{day: day}
}

// TestWalks: everything that is told, behind every step, with views made anew of the lists all the time.
func TestWalks(t *testing.T) {
	met := map[api.Errno]int{}
	for n := range uint64(60) {
		r := source(100 + n)
		x, twin := fresh(t), New()
		for range 60 {
			c := anyCall(r, x.m)
			e := x.tell(c)
			met[e]++
			if got := c.on(twin); got != e {
				t.Fatalf("%+v on a view made of lists: %d, want %d", c, got, e)
			}
			alike(t, x.a, x.m, walkAccounts...)
			alike(t, twin, x.m, walkAccounts...)
			if r.IntN(3) > 0 {
				twin = copyOf(t, x.a)
			}
		}
	}
	for _, e := range []api.Errno{api.OK, api.ErrArg, api.ErrTwice, api.ErrOverflow, api.ErrRef, api.ErrEarly, api.ErrOver} {
		if met[e] < 30 {
			t.Errorf("answers: %v", met)
		}
	}
}

// walked: a view behind some calls.
func walked(t *testing.T, r *rand.Rand, calls int) *both {
	x := fresh(t)
	for range calls {
		x.tell(anyCall(r, x.m))
	}
	return x
}

// shuffled: claims and allotments in another order, with days to go to in between; no allotment stands ahead of its claim.
func shuffled(r *rand.Rand, m model) (l []call) {
	for _, c := range m.claims {
		l = append(l, call{invoice: &c})
	}
	r.Shuffle(len(l), func(i, j int) { l[i], l[j] = l[j], l[i] })
	for _, i := range r.Perm(len(m.allots)) {
		x := m.allots[i]
		at := slices.IndexFunc(l, func(c call) bool { return c.invoice != nil && c.invoice.Key == x.Invoice })
		l = slices.Insert(l, at+1+r.IntN(len(l)-at), call{allot: &x})
	}
	days := []int{}
	for range r.IntN(5) {
		if day := anyDay(r); isADay(day) && day < m.day {
			days = append(days, day)
		}
	}
	slices.Sort(days)
	at := 0
	for _, day := range append(days, m.day) {
		at += r.IntN(len(l) - at + 1)
		l = slices.Insert(l, at, call{day: day})
		at++
	}
	return l
}

// TestP10_9Order: in whatever order, by whatever days.
func TestP10_9Order(t *testing.T) {
	r := source(3)
	for range 150 {
		first := walked(t, r, 60)
		for range 4 {
			a := New()
			for _, c := range shuffled(r, first.m) {
				if e := c.on(a); e != api.OK {
					t.Fatalf("%+v in another order: %d", c, e)
				}
				if r.IntN(10) == 0 {
					a = copyOf(t, a)
				}
			}
			for _, account := range walkAccounts {
				if a.Now(account) != first.a.Now(account) {
					t.Fatalf("Now(%q): %v, want %v", account, a.Now(account), first.a.Now(account))
				}
				for _, day := range askedDays(first.m, account) {
					if a.At(account, day) != first.a.At(account, day) || !slices.Equal(a.Open(account, day), first.a.Open(account, day)) {
						t.Fatalf("At(%q, %d): %v, want %v", account, day, a.At(account, day), first.a.At(account, day))
					}
				}
			}
		}
	}
}

// TestP10_9AllOrders: two claims and three allotments in every order that can be.
func TestP10_9AllOrders(t *testing.T) {
	i, j := inv("i", "ann", d, d, 10), inv("j", "ann", d+1, d+5, 20)
	p, q, o := alt("p", "i", d+3, 4), alt("p", "i", d+1, 6), alt("p", "j", d+31, 20)
	calls := []call{{invoice: &i}, {invoice: &j}, {allot: &p}, {allot: &q}, {allot: &o}, {day: d + 2}}
	taken := 0
	var permute func(n int)
	permute = func(n int) {
		if n == len(calls) {
			x := fresh(t)
			for _, c := range calls {
				if x.tell(c) != api.OK {
					return
				}
			}
			taken++
			alike(t, x.a, x.m)
			if got := x.a.Now("ann"); got != (api.Ages{20, 4}) {
				t.Fatalf("Now: %v", got)
			}
			return
		}
		for k := n; k < len(calls); k++ {
			calls[n], calls[k] = calls[k], calls[n]
			permute(n + 1)
			calls[n], calls[k] = calls[k], calls[n]
		}
	}
	permute(0)
	if taken != 120 { // 720 orders; i is ahead of p and q in a third of them, j ahead of o in half of these
		t.Errorf("%d orders", taken)
	}
}

// TestP10_10NeverMore: by what is told alone.
func TestP10_10NeverMore(t *testing.T) {
	r := source(4)
	for range 200 {
		x := walked(t, r, 40)
		for _, account := range walkAccounts {
			var invoiced int64
			for _, c := range x.a.Claims() {
				if c.Account == account {
					invoiced += c.Amount
				}
			}
			for _, day := range askedDays(x.m, account) {
				ages, told := x.a.At(account, day), api.Ages{}
				var open, sum int64
				for _, c := range x.a.Open(account, day) {
					if c.Amount < 1 || c.Account != account {
						t.Fatalf("Open(%q, %d): %v", account, day, c)
					}
					told[ageAt(c, day)] += c.Amount
					open += c.Amount
				}
				for _, n := range ages {
					if n < 0 {
						t.Fatalf("At(%q, %d): %v", account, day, ages)
					}
					sum += n
				}
				if ages != told || sum != open || sum > invoiced {
					t.Fatalf("At(%q, %d): %v; Open: %v; invoiced: %d", account, day, ages, told, invoiced)
				}
			}
		}
	}
}

// TestP10_11DayByDay: what is open of one claim, and its age, from each day to the next.
func TestP10_11DayByDay(t *testing.T) {
	x := fresh(t)
	c := inv("i", "ann", d, d+20, 100)
	parts := map[int]int64{d: 5, d + 7: 10, d + 21: 20, d + 51: 30, d + 120: 34}
	x.invoices(api.OK, c)
	for day, n := range parts {
		x.allotments(api.OK, alt("p", "i", day, n-1), alt("q", "i", day, 1))
	}
	x.goesTo(api.OK, d-5)
	sum := func(ages api.Ages) (n int64, age int) {
		for i, part := range ages {
			if n += part; part > 0 {
				age = i
			}
		}
		return n, age
	}
	steps := []int{d + 21, d + 51, d + 81, d + 111}
	for day := d - 4; day < d+200; day++ {
		before, ageBefore := sum(x.a.At("ann", day-1))
		if now := x.a.Now("ann"); now != x.a.At("ann", day-1) {
			t.Fatalf("Now on %d: %v", day-1, now)
		}
		x.goesTo(api.OK, day)
		n, age := sum(x.a.Now("ann"))
		want, wantAge := before-parts[day], ageBefore
		if day == d {
			want += 100
		}
		if slices.Contains(steps, day) {
			wantAge++
		}
		if n != want || age != wantAge {
			t.Fatalf("on %d: %d of age %d, want %d of %d", day, n, age, want, wantAge)
		}
	}
}

// TestP10_11OneAgeOn: with nothing of days in between, nothing goes on by more than one age in 30 days.
func TestP10_11OneAgeOn(t *testing.T) {
	r := source(5)
	for range 100 {
		x := walked(t, r, 40)
		for _, account := range walkAccounts {
			for _, day := range askedDays(x.m, account) {
				to := day + r.IntN(31)
				quiet := isADay(day) && isADay(to)
				for _, c := range x.m.claims {
					quiet = quiet && (c.Day <= day || c.Day > to)
				}
				for _, y := range x.m.allots {
					quiet = quiet && (y.Day <= day || y.Day > to)
				}
				if !quiet {
					continue
				}
				was, is := x.a.At(account, day), x.a.At(account, to)
				// So much at least is at an age or further on, and so much at most.
				var wasFrom, isFrom, wasNext int64
				for age := 4; age > 0; age-- {
					wasFrom, isFrom, wasNext = wasFrom+was[age], isFrom+is[age], wasFrom+was[age]+was[age-1]
					if isFrom < wasFrom || isFrom > wasNext {
						t.Fatalf("%q from %d: %v, to %d: %v", account, day, was, to, is)
					}
				}
			}
		}
	}
}

// TestP10_12LaterDaysAlone: any claim or allotment, at any view.
func TestP10_12LaterDaysAlone(t *testing.T) {
	r := source(6)
	taken := 0
	for range 1500 {
		x := walked(t, r, r.IntN(20))
		before := copyOf(t, x.a)
		c := anyCall(r, x.m)
		if c.invoice == nil && c.allot == nil || x.tell(c) != api.OK {
			continue
		}
		taken++
		account, from := "", 0
		if c.invoice != nil {
			account, from = c.invoice.Account, c.invoice.Day
		} else {
			of, _ := x.m.claim(c.allot.Invoice)
			account, from = of.Account, c.allot.Day
		}
		for _, other := range walkAccounts {
			if other != account && before.Now(other) != x.a.Now(other) {
				t.Fatalf("%+v changed Now(%q)", c, other)
			}
			for _, day := range askedDays(x.m, other) {
				if other == account && day >= from {
					continue
				}
				if before.At(other, day) != x.a.At(other, day) || !slices.Equal(before.Open(other, day), x.a.Open(other, day)) {
					t.Fatalf("%+v changed day %d of %q", c, day, other)
				}
			}
		}
	}
	if taken < 300 {
		t.Errorf("only %d were taken", taken)
	}
}

// TestP10_13GoesOnAlike: a view of the lists, and one that took them step by step, in whatever goes on.
func TestP10_13GoesOnAlike(t *testing.T) {
	r := source(7)
	for range 100 {
		x := walked(t, r, r.IntN(50))
		y := &both{t, copyOf(t, x.a), x.m}
		alike(t, y.a, x.m, walkAccounts...)
		for range 25 {
			c := anyCall(r, x.m)
			if got, want := y.tell(c), x.tell(c); got != want {
				t.Fatalf("%+v: %d, want %d", c, got, want)
			}
		}
		alike(t, y.a, x.m, walkAccounts...)
		alike(t, x.a, y.m, walkAccounts...)
	}
}
