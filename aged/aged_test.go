package aged

import (
	"slices"
	"strconv"
	"testing"

	"daybook/api"
)

func TestP10_1New(t *testing.T) {
	for _, a := range []*Aged{New(), {}} { // one that nobody made goes on as a new one
		x := &both{t, a, model{day: firstDay}}
		alike(t, a, x.m, texts()...)
		x.allotments(api.ErrRef, alt("p", "", 1, 1), alt("p", "i", d, 1))
		x.goesTo(api.ErrArg, 0)
		x.invoices(api.OK, inv("i", "ann", d, d, 5))
		x.allotments(api.OK, alt("p", "i", d+2, 2))
		x.goesTo(api.OK, firstDay, d+3)
		alike(t, a, x.m)
	}
	if n := New().AsOf(); n != api.MinDay {
		t.Errorf("AsOf: %d", n)
	}
}

// TestP10_2ErrArg: of each field, at views of all sorts.
func TestP10_2ErrArg(t *testing.T) {
	for _, x := range []*both{fresh(t), some(t)} {
		for _, day := range badDays() {
			x.invoices(api.ErrArg, inv("n", "ann", day, d, 1), inv("n", "ann", d, day, 1), inv("n", "ann", day, day, 1))
		}
		x.invoices(api.ErrArg, inv("n", "ann", d, d-1, 1), inv("n", "ann", lastDay, firstDay, 1), inv("n", "ann", 2, 1, 1), inv("n", "ann", lastDay, lastDay-1, 1))
		for _, amount := range []int64{0, -1, -5, least, -most} {
			x.invoices(api.ErrArg, inv("n", "ann", d, d, amount))
		}
		x.invoices(api.ErrArg, api.Claim{})
		x.invoices(api.OK, inv("n", "ann", d, d, 1), inv("n1", "ann", firstDay, firstDay, 1), inv("n2", "ann", lastDay, lastDay, 1), inv("n3", "ann", firstDay, lastDay, 1))
		alike(t, x.a, x.m)
	}
}

// some: a view with claims of which nothing, all and a part is open, gone on into their midst.
func some(t *testing.T) *both {
	x := fresh(t)
	x.invoices(api.OK, inv("i1", "ann", d, d+30, 100), inv("i2", "ann", d+10, d+10, 50), inv("i3", "bob", d-100, d-100, 7), inv("i4", "ann", d-200, d-150, 9), inv("i5", "bob", d+300, d+310, 1000), inv("", "", 1, 2, 3))
	x.allotments(api.OK, alt("p1", "i1", d+20, 60), alt("p2", "i1", d+5, 10), alt("p1", "i4", d-50, 9), alt("p3", "i5", d+320, 1), alt("p3", "i3", d+1, 6))
	x.goesTo(api.OK, d+7)
	return x
}

func TestP10_2ErrTwice(t *testing.T) {
	x := some(t)
	for _, c := range x.m.claims {
		// Whatever else it has.
		x.invoices(api.ErrTwice, c, inv(c.Key, "else", d+1, d+2, 1), inv(c.Key, "", firstDay, lastDay, 1))
	}
	// Keys are the same just if all their bytes are.
	x = fresh(t)
	for _, key := range texts() {
		x.invoices(api.OK, inv(key, "ann", d, d, 1))
	}
	for _, key := range texts() {
		x.invoices(api.ErrTwice, inv(key, "bob", d, d, 1))
	}
	alike(t, x.a, x.m)
	// An invoice that was refused has not used its key.
	x = fresh(t)
	x.invoices(api.OK, inv("i", "ann", d, d, 5))
	x.invoices(api.ErrOverflow, inv("j", "ann", d, d, most))
	x.invoices(api.ErrArg, inv("j", "ann", d, d-1, 1))
	x.invoices(api.OK, inv("j", "ann", d, d, 1))
	alike(t, x.a, x.m)
}

// TestP10_2ErrOverflow: all claims together, whatever their accounts and days are, and whatever was allotted.
func TestP10_2ErrOverflow(t *testing.T) {
	x := fresh(t)
	x.invoices(api.OK, inv("a", "ann", d, d, most))
	x.invoices(api.ErrOverflow, inv("b", "ann", d, d, 1), inv("b", "bob", lastDay, lastDay, 1), inv("b", "bob", 1, 1, most))
	x.allotments(api.OK, alt("p", "a", d, most))
	x.invoices(api.ErrOverflow, inv("b", "ann", d+9, d+9, 1))
	x.goesTo(api.OK, lastDay)
	x.invoices(api.ErrOverflow, inv("b", "ann", d+9, d+9, 1))
	alike(t, x.a, x.m)

	x = fresh(t)
	x.invoices(api.OK, inv("a", "ann", d, d, most-3), inv("b", "bob", d, d, 1))
	x.invoices(api.ErrOverflow, inv("c", "cid", 5, 5, 3), inv("c", "cid", 5, 5, 4), inv("c", "cid", 5, 5, most), inv("c", "cid", 5, 5, most-2))
	x.invoices(api.OK, inv("c", "cid", 5, 5, 1), inv("e", "ann", 6, d, 1))
	x.invoices(api.ErrOverflow, inv("f", "", 5, 5, 1))
	x.invoices(api.ErrTwice, inv("a", "", 5, 5, 1))
	for _, day := range []int{d, d + 1, d + 31, d + 61, d + 91, lastDay} {
		x.goesTo(api.OK, day)
		alike(t, x.a, x.m)
	}
}

// TestP10_2FirstError: of several that hold the first, with each that can stand behind it.
func TestP10_2FirstError(t *testing.T) {
	x := fresh(t)
	x.invoices(api.OK, inv("big", "ann", d, d, most-manyMost))
	for _, ask := range []struct {
		c    api.Claim
		want []api.Errno
	}{
		{inv("n", "ann", 0, d, most), []api.Errno{api.ErrArg, api.ErrOverflow}}, {inv("big", "ann", d, d-1, 1), []api.Errno{api.ErrArg, api.ErrTwice}}, {inv("big", "ann", d, lastDay+1, most), []api.Errno{api.ErrArg, api.ErrTwice, api.ErrOverflow}},
		{inv("big", "ann", d, d, most), []api.Errno{api.ErrTwice, api.ErrOverflow}}, {inv("big", "ann", d, d, 0), []api.Errno{api.ErrArg, api.ErrTwice}},
	} {
		if got := x.m.invoiceReasons(ask.c); !slices.Equal(got, ask.want) {
			t.Fatalf("%v: %v", ask.c, got)
		}
		x.invoices(ask.want[0], ask.c)
	}
	full(t, x)
	for _, ask := range []struct {
		c    api.Claim
		want []api.Errno
	}{
		{inv("n", "ann", 0, d, 1), []api.Errno{api.ErrArg, api.ErrMany}}, {inv("n", "ann", d, d, 1), []api.Errno{api.ErrMany}}, {inv("big", "ann", d, d, 1), []api.Errno{api.ErrMany, api.ErrTwice}}, {inv("n", "ann", d, d, most), []api.Errno{api.ErrMany, api.ErrOverflow}},
		{inv("big", "ann", d, d, most), []api.Errno{api.ErrMany, api.ErrTwice, api.ErrOverflow}}, {inv("big", "ann", d, d, -1), []api.Errno{api.ErrArg, api.ErrMany, api.ErrTwice}}, {inv("big", "ann", d, 0, most), []api.Errno{api.ErrArg, api.ErrMany, api.ErrTwice, api.ErrOverflow}},
	} {
		if got := x.m.invoiceReasons(ask.c); !slices.Equal(got, ask.want) {
			t.Fatalf("%v: %v", ask.c, got)
		}
		if e := x.invoice(ask.c); e != ask.want[0] {
			t.Errorf("%v: %d", ask.c, e)
		}
	}
	same(t, x)
}

// full takes claims of 1 until there are as many as may be.
func full(t *testing.T, x *both) {
	t.Helper()
	for i := len(x.m.claims); i < manyMost; i++ {
		if e := x.invoice(inv("c"+strconv.Itoa(i), "acc"+strconv.Itoa(i%7), d+i%50, d+i%50+i%3, 1)); e != api.OK {
			t.Fatalf("claim %d: %d", i, e)
		}
	}
}

// same: the lists and a few answers, of a view that is too large to ask everything.
func same(t *testing.T, x *both) {
	t.Helper()
	if !slices.Equal(x.a.Claims(), x.m.claims) || !slices.Equal(x.a.Allots(), x.m.allots) || x.a.AsOf() != x.m.day {
		t.Fatal("other claims, allotments or another day")
	}
	for _, account := range x.m.accounts() {
		if x.a.Now(account) != x.m.at(account, x.m.day) {
			t.Fatalf("Now(%q): %v", account, x.a.Now(account))
		}
		for _, day := range []int{d - 1, d, d + 20, d + 33, d + 60, d + 99, lastDay} {
			if x.a.At(account, day) != x.m.at(account, day) || !slices.Equal(x.a.Open(account, day), x.m.open(account, day)) {
				t.Fatalf("At(%q, %d): %v", account, day, x.a.At(account, day))
			}
		}
	}
}

func TestP10_2ErrMany(t *testing.T) {
	x := fresh(t)
	full(t, x)
	same(t, x)
	for range 2 {
		if e := x.invoice(inv("more", "ann", d, d, 1)); e != api.ErrMany {
			t.Errorf("one more: %d", e)
		}
	}
	same(t, x)
	// All that was allotted makes no room.
	for _, c := range x.m.claims {
		if e := x.allot(alt("p", c.Key, c.Day+1, c.Amount)); e != api.OK {
			t.Fatalf("%v: %d", c, e)
		}
	}
	x.goesTo(api.OK, lastDay)
	if e := x.invoice(inv("more", "ann", d, d, 1)); e != api.ErrMany {
		t.Errorf("one more: %d", e)
	}
	same(t, x)
	if b := copyOf(t, x.a); b.Invoice(inv("more", "ann", d, d, 1)) != api.ErrMany || b.Allot(alt("p", "c1", d+9, 1)) != api.ErrMany {
		t.Error("one more of a view that From made is taken")
	}
}

func TestP10_3ErrMany(t *testing.T) {
	x := fresh(t)
	x.invoices(api.OK, inv("i", "ann", d, d, manyMost+5), inv("j", "ann", d, d, 1))
	for i := range manyMost {
		if e := x.allot(alt("p", "i", d+(i*37)%100, 1)); e != api.OK {
			t.Fatalf("allotment %d: %d", i, e)
		}
	}
	same(t, x)
	for _, ask := range []struct {
		y    api.Allot
		want []api.Errno
	}{
		{alt("p", "i", d, 1), []api.Errno{api.ErrMany}}, {alt("p", "i", 0, 1), []api.Errno{api.ErrArg, api.ErrMany, api.ErrEarly}}, {alt("p", "n", d, 1), []api.Errno{api.ErrMany, api.ErrRef}}, {alt("p", "i", d-1, 1), []api.Errno{api.ErrMany, api.ErrEarly}},
		{alt("p", "i", d, 6), []api.Errno{api.ErrMany, api.ErrOver}}, {alt("p", "j", d, 1), []api.Errno{api.ErrMany}}, {alt("p", "n", d, 0), []api.Errno{api.ErrArg, api.ErrMany, api.ErrRef}}, {alt("p", "i", lastDay+1, most), []api.Errno{api.ErrArg, api.ErrMany, api.ErrOver}},
	} {
		if got := x.m.allotReasons(ask.y); !slices.Equal(got, ask.want) {
			t.Fatalf("%v: %v", ask.y, got)
		}
		for range 2 {
			if e := x.allot(ask.y); e != ask.want[0] {
				t.Errorf("%v: %d", ask.y, e)
			}
		}
	}
	same(t, x)
	x.invoices(api.OK, inv("k", "ann", d, d, 1))
	for _, day := range []int{d - 1, d, d + 50, d + 99, lastDay} {
		x.goesTo(api.OK, day)
		same(t, x)
	}
}

func TestP10_3Errors(t *testing.T) {
	for _, ask := range []struct {
		y    api.Allot
		want []api.Errno
	}{
		{alt("p", "i1", 0, 1), []api.Errno{api.ErrArg, api.ErrEarly}}, {alt("p", "i1", lastDay+1, 1), []api.Errno{api.ErrArg}}, {alt("p", "i1", d, 0), []api.Errno{api.ErrArg}}, {alt("p", "i1", d, -1), []api.Errno{api.ErrArg}}, {alt("p", "i1", d, least), []api.Errno{api.ErrArg}},
		{alt("p", "n", 0, 1), []api.Errno{api.ErrArg, api.ErrRef}}, {alt("p", "n", d, 0), []api.Errno{api.ErrArg, api.ErrRef}}, {alt("p", "i1", lastDay+1, 31), []api.Errno{api.ErrArg, api.ErrOver}}, {alt("p", "i1", d-1, -1), []api.Errno{api.ErrArg, api.ErrEarly}}, {alt("p", "i1", 0, most), []api.Errno{api.ErrArg, api.ErrEarly, api.ErrOver}},
		{alt("p", "n", d, 1), []api.Errno{api.ErrRef}}, {alt("i1", "p1", d, 1), []api.Errno{api.ErrRef}}, {alt("p", "i", d, 1), []api.Errno{api.ErrRef}}, {alt("p", "i11", d, 1), []api.Errno{api.ErrRef}}, {alt("p", "I1", d, most), []api.Errno{api.ErrRef}},
		{alt("p", "i1", d-1, 1), []api.Errno{api.ErrEarly}}, {alt("p", "i1", firstDay, 1), []api.Errno{api.ErrEarly}}, {alt("p", "i1", d-1, 31), []api.Errno{api.ErrEarly, api.ErrOver}}, {alt("p", "i4", d-201, 1), []api.Errno{api.ErrEarly, api.ErrOver}},
		{alt("p", "i1", d, 31), []api.Errno{api.ErrOver}}, {alt("p", "i1", lastDay, 31), []api.Errno{api.ErrOver}}, {alt("p", "i1", d, most), []api.Errno{api.ErrOver}}, {alt("p", "i4", d, 1), []api.Errno{api.ErrOver}}, {alt("p", "i3", d-100, 2), []api.Errno{api.ErrOver}},
		{alt("p", "i1", d, 30), nil}, {alt("p", "i1", lastDay, 30), nil}, {alt("p1", "i1", d, 1), nil}, {alt("", "i1", d, 1), nil}, {alt("i1", "i1", d+31, 29), nil}, {alt("p", "", 1, 3), nil}, {alt("p", "i5", d+300, 999), nil}, {alt("p", "i3", d-100, 1), nil},
	} {
		x := some(t)
		if got := x.m.allotReasons(ask.y); !slices.Equal(got, ask.want) {
			t.Fatalf("%v: %v", ask.y, got)
		}
		x.allotments(firstOf(ask.want), ask.y)
		alike(t, x.a, x.m)
	}
	for _, x := range []*both{fresh(t), some(t)} {
		for _, day := range badDays() {
			x.allotments(api.ErrArg, alt("p", "i1", day, 1), alt("p", "n", day, 1), alt("p", "i1", day, least))
		}
	}
}

// TestP10_3AnyText: of payments any, as often as one likes; of invoices byte by byte.
func TestP10_3AnyText(t *testing.T) {
	x := fresh(t)
	for i, key := range texts() {
		x.invoices(api.OK, inv(key, texts()[len(texts())-1-i], d+i, d+2*i, int64(100+i)))
	}
	for i, key := range texts() {
		for _, pay := range []string{"", key, "p", "p"} {
			x.allotments(api.OK, alt(pay, key, d+3*i, int64(i+1)))
		}
	}
	alike(t, x.a, x.m, texts()...)
	for _, key := range texts() {
		if _, there := x.m.claim(key + "\x00"); !there {
			x.allotments(api.ErrRef, alt("p", key+"\x00", lastDay, 1))
		}
	}
	x.goesTo(api.OK, d+40)
	alike(t, x.a, x.m, texts()...)
	alike(t, copyOf(t, x.a), x.m, texts()...)
}

// TestP10_3UpToAllThatIsLeft: by allotments of days in whatever order.
func TestP10_3UpToAllThatIsLeft(t *testing.T) {
	for _, days := range [][]int{{d, d + 1, d + 2}, {d + 2, d + 1, d}, {d + 1, d, d + 2}, {d, d, d}, {lastDay, d, lastDay}, {d + 100, d + 5, d + 31}} {
		for _, asOf := range []int{firstDay, d, d + 1, d + 50, lastDay} {
			x := fresh(t)
			x.goesTo(api.OK, asOf)
			x.invoices(api.OK, inv("i", "ann", d, d, most-50), inv("j", "ann", d, d, 50))
			left := int64(most - 50)
			for _, day := range days {
				part := left/2 + 1
				x.allotments(api.ErrOver, alt("p", "i", day, left+1), alt("p", "i", d, left+1), alt("p", "i", lastDay, left+1))
				x.allotments(api.OK, alt("p", "i", day, part))
				left -= part
				alike(t, x.a, x.m)
			}
			x.allotments(api.ErrOver, alt("p", "i", d+7, left+1))
			x.allotments(api.OK, alt("p", "i", d+7, left))
			x.allotments(api.ErrOver, alt("p", "i", d, 1), alt("p", "i", lastDay, 1))
			x.allotments(api.OK, alt("p", "j", d, 50))
			alike(t, x.a, x.m)
			if got := x.a.Open("ann", lastDay); len(got) > 0 {
				t.Errorf("Open: %v", got)
			}
		}
	}
}

func TestP10_4Advance(t *testing.T) {
	x := some(t)
	x.goesTo(api.ErrArg, badDays()...)
	x.goesTo(api.ErrEarly, firstDay, d, d+6)
	x.goesTo(api.OK, d+7, d+7, d+8)
	x.goesTo(api.ErrEarly, d+7)
	x.goesTo(api.OK, lastDay-1, lastDay, lastDay)
	x.goesTo(api.ErrArg, lastDay+1, most, 0)
	x.goesTo(api.ErrEarly, lastDay-1, firstDay)
	alike(t, x.a, x.m)
	// ErrArg ahead of ErrEarly.
	if got := x.m.advanceReasons(0); !slices.Equal(got, []api.Errno{api.ErrArg, api.ErrEarly}) {
		t.Error(got)
	}
	y := fresh(t)
	y.goesTo(api.ErrArg, badDays()...)
	y.goesTo(api.OK, firstDay, firstDay+1)
	y.goesTo(api.ErrEarly, firstDay)
	alike(t, y.a, y.m)
}

// TestP10_4StepsOfAllSizes: day by day, or further at once, Now is At.
func TestP10_4StepsOfAllSizes(t *testing.T) {
	for _, step := range []int{1, 2, 7, 29, 30, 31, 91, 400} {
		x := some(t)
		for x.m.day < d+500 {
			x.goesTo(api.OK, x.m.day+step)
			for _, account := range []string{"ann", "bob", "", "nobody"} {
				if got, want := x.a.Now(account), x.m.at(account, x.m.day); got != want || got != x.a.At(account, x.m.day) {
					t.Fatalf("Now(%q) on %d: %v, want %v", account, x.m.day, got, want)
				}
			}
		}
		alike(t, x.a, x.m)
	}
}

// TestP10_5Ages: each edge of an age, of claims that are due on their day and later, at the ends of the days too.
func TestP10_5Ages(t *testing.T) {
	edges := []struct{ behind, age int }{{-5, 0}, {-1, 0}, {0, 0}, {1, 1}, {2, 1}, {29, 1}, {30, 1}, {31, 2}, {32, 2}, {59, 2}, {60, 2}, {61, 3}, {62, 3}, {89, 3}, {90, 3}, {91, 4}, {92, 4}, {1000, 4}}
	for _, c := range []api.Claim{
		inv("i", "ann", d, d, 5), inv("i", "ann", d-5, d, 5), inv("i", "ann", firstDay, d, 5), inv("i", "ann", firstDay, firstDay, 5), inv("i", "ann", lastDay, lastDay, 5), inv("i", "ann", lastDay-40, lastDay-40, 5), inv("i", "ann", lastDay-95, lastDay-91, 5), inv("i", "ann", firstDay, lastDay, 5), inv("i", "ann", d, lastDay-61, 5),
	} {
		x := fresh(t)
		x.invoices(api.OK, c)
		for _, edge := range edges {
			day := c.Due + edge.behind
			want := api.Ages{}
			if day >= c.Day && isADay(day) {
				want[edge.age] = 5
			}
			if got := x.a.At("ann", day); got != want {
				t.Errorf("%v at %d: %v, want %v", c, day, got, want)
			}
			if x.m.advanceReasons(day) == nil {
				x.goesTo(api.OK, day)
				if got := x.a.Now("ann"); got != want {
					t.Errorf("%v now at %d: %v, want %v", c, day, got, want)
				}
			}
		}
		alike(t, x.a, x.m)
	}
}

// TestP10_5NoDay: whatever there is.
func TestP10_5NoDay(t *testing.T) {
	x := some(t)
	for _, y := range []*both{x, fresh(t)} {
		for _, day := range badDays() {
			for _, account := range append(texts(), x.m.accounts()...) {
				if got := y.a.At(account, day); got != (api.Ages{}) {
					t.Errorf("At(%q, %d): %v", account, day, got)
				}
				if got := y.a.Open(account, day); len(got) > 0 {
					t.Errorf("Open(%q, %d): %v", account, day, got)
				}
			}
		}
	}
}

// TestP10_5TakenAheadOfAtAndBehind: the view's day, at the call, on each side of the Day and of each edge.
func TestP10_5TakenAheadOfAtAndBehind(t *testing.T) {
	for _, due := range []int{d, d + 1, d + 30, d + 400} {
		for _, asOf := range []int{firstDay, d - 1, d, d + 1, due - 1, due, due + 1, due + 30, due + 31, due + 60, due + 61, due + 90, due + 91, lastDay} {
			for _, paid := range []int{d, d + 1, due, due + 1, due + 45, due + 91, lastDay} {
				x := fresh(t)
				x.goesTo(api.OK, asOf)
				x.invoices(api.OK, inv("i", "ann", d, due, 10), inv("other", "ann", d+3, due+3, 100))
				alike(t, x.a, x.m)
				x.allotments(api.OK, alt("p", "i", paid, 4))
				alike(t, x.a, x.m)
				for _, day := range []int{asOf + 1, asOf + 30, due + 91, lastDay} {
					if x.m.advanceReasons(day) == nil {
						x.goesTo(api.OK, day)
						if got, want := x.a.Now("ann"), x.m.at("ann", day); got != want {
							t.Fatalf("due %d, taken on %d, paid on %d: Now on %d: %v, want %v", due, asOf, paid, day, got, want)
						}
					}
				}
			}
		}
	}
}

// TestP10_6Order: by Due, then Day, then Key, in whatever order they came.
func TestP10_6Order(t *testing.T) {
	var want []api.Claim
	for due := d; due < d+3; due++ {
		for day := d - 3; day < d; day++ {
			for i, key := range []string{"", "\x00", "1", "10", "2", "A", "a", "aa", "ab", "b", "\xc3\xa4", "\xff", "\xff\xff"} {
				// Keys are used once: they begin alike and end otherwise, or stand at one place alone.
				if due > d || day > d-3 {
					key += "/" + strconv.Itoa((due-d)*3+day-d+3)
				}
				want = append(want, inv(key, "ann", day, due, int64(1+i)))
			}
		}
	}
	r := source(1)
	for range 20 {
		x := fresh(t)
		for _, i := range r.Perm(len(want)) {
			x.invoices(api.OK, want[i])
		}
		got := x.a.Open("ann", d)
		if len(got) != len(want) || !slices.Equal(got, x.m.open("ann", d)) {
			t.Fatalf("Open: %v", got)
		}
		for i := range got[1:] {
			if !ahead(got[i], got[i+1]) {
				t.Fatalf("%v stands ahead of %v", got[i], got[i+1])
			}
		}
	}
	// Each of the three alone.
	x := fresh(t)
	x.invoices(api.OK, inv("a", "ann", d, d+2, 1), inv("b", "ann", d-1, d+1, 1), inv("c", "ann", d-2, d+1, 1), inv("bb", "ann", d-1, d+1, 1), inv("B", "ann", d-1, d+1, 1), inv("z", "ann", d, d, 1), inv("0", "bob", 1, 1, 1))
	keys := []string{}
	for _, c := range x.a.Open("ann", d) {
		keys = append(keys, c.Key)
	}
	if !slices.Equal(keys, []string{"z", "c", "B", "b", "bb", "a"}) {
		t.Errorf("Open: %v", keys)
	}
}

// TestP10_6WhatIsOpen: with Amount what is open, and none of which nothing is.
func TestP10_6WhatIsOpen(t *testing.T) {
	x := some(t)
	for _, ask := range []struct {
		account string
		day     int
		want    []api.Claim
	}{
		{"ann", d - 201, nil}, {"ann", d - 200, []api.Claim{inv("i4", "ann", d-200, d-150, 9)}}, {"ann", d - 51, []api.Claim{inv("i4", "ann", d-200, d-150, 9)}}, {"ann", d - 50, nil}, {"ann", d, []api.Claim{inv("i1", "ann", d, d+30, 100)}}, {"ann", d + 5, []api.Claim{inv("i1", "ann", d, d+30, 90)}},
		{"ann", d + 10, []api.Claim{inv("i2", "ann", d+10, d+10, 50), inv("i1", "ann", d, d+30, 90)}}, {"ann", lastDay, []api.Claim{inv("i2", "ann", d+10, d+10, 50), inv("i1", "ann", d, d+30, 30)}}, {"bob", d, []api.Claim{inv("i3", "bob", d-100, d-100, 7)}}, {"bob", d + 1, []api.Claim{inv("i3", "bob", d-100, d-100, 1)}},
		{"", 1, []api.Claim{inv("", "", 1, 2, 3)}}, {"an", d, nil}, {"annn", d, nil}, {"i1", d, nil}, {"ann", 0, nil}, {"ann", lastDay + 1, nil},
	} {
		if got := x.a.Open(ask.account, ask.day); !slices.Equal(got, ask.want) {
			t.Errorf("Open(%q, %d): %v, want %v", ask.account, ask.day, got, ask.want)
		}
	}
}

// TestP10_7Lists: as they were handed in, in the order in which they were taken, whatever is open of them.
func TestP10_7Lists(t *testing.T) {
	x := fresh(t)
	claims := []api.Claim{inv("z", "b", d, d, 5), inv("a", "a", 1, lastDay, 4), inv("m", "c", d-1, d, 3)}
	allots := []api.Allot{alt("q", "z", d+4, 5), alt("p", "a", 7, 1), alt("q", "m", d, 3), alt("p", "a", 7, 1), alt("p", "a", 7, 1)}
	x.invoices(api.OK, claims...)
	x.invoices(api.ErrTwice, claims[0])
	x.allotments(api.OK, allots...)
	x.allotments(api.ErrOver, alt("p", "z", d, 1))
	x.goesTo(api.OK, d+9)
	if got := x.a.Claims(); !slices.Equal(got, claims) {
		t.Errorf("Claims: %v", got)
	}
	if got := x.a.Allots(); !slices.Equal(got, allots) {
		t.Errorf("Allots: %v", got)
	}
}
