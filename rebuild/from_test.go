package rebuild

import (
	"fmt"
	"reflect"
	"slices"
	"testing"

	"daybook/aged"
	"daybook/api"
	"daybook/daily"
	"daybook/sums"
)

func refused(t *testing.T, what string, x api.Snap, want api.Errno) {
	t.Helper()
	if s, why := From(x); s != nil || why != want {
		t.Errorf("%s: a set %v, %d, want none, %d", what, s != nil, why, want)
	}
}

// TestP12_3ThereAndBack: at every number of events the Snap is taken, gives a set with just that Snap, and that goes on alike.
func TestP12_3ThereAndBack(t *testing.T) {
	events := story()
	for n := range len(events) + 1 {
		x := snapBehind(t, events[:n])
		if !alike(x, plainSnap(t, events[:n])) {
			t.Fatalf("the Snap behind %d events: %+v", n, x)
		}
		b := &both{t, from(t, x), slices.Clone(events[:n])}
		has(t, b.s, x)
		for _, e := range events[n:] {
			b.tell(e)
			b.tell(e)
		}
		has(t, from(t, b.s.Snap()), plainSnap(t, events))
	}
}

// TestP12_3Empty: nil and empty lists are alike.
func TestP12_3Empty(t *testing.T) {
	empty := api.Snap{
		Base:     api.Base{Keys: []string{}, Accounts: []api.Account{}, Rows: []api.Posting{}, Entries: []api.Entry{}, Invoices: []api.Claim{}, Payments: []api.Claim{}, Allots: []api.Allot{}},
		Balances: []api.Balance{}, Days: []api.DayRow{}, Claims: []api.Claim{}, Allots: []api.Allot{}, AsOf: 1,
	}
	has(t, from(t, empty), api.Snap{AsOf: 1})
	has(t, from(t, api.Snap{AsOf: 1}), empty)
	refused(t, "the zero Snap", api.Snap{}, api.ErrView)
}

// others: lists that differ from one in a single part: it is missing, there twice, another one, or stands elsewhere.
func others[E any](l []E) map[string][]E {
	all := map[string][]E{}
	for i := range l {
		all[fmt.Sprint("less ", i)] = slices.Delete(slices.Clone(l), i, i+1)
		all[fmt.Sprint("twice ", i)] = slices.Insert(slices.Clone(l), i, l[i])
		all[fmt.Sprint("cut at ", i)] = slices.Clone(l[:i])
		for j := range reflect.TypeFor[E]().NumField() {
			more, less := slices.Clone(l), slices.Clone(l)
			if f, g := reflect.ValueOf(&more[i]).Elem().Field(j), reflect.ValueOf(&less[i]).Elem().Field(j); f.CanInt() {
				f.SetInt(f.Int() + 1)
				g.SetInt(g.Int() - 1)
			} else {
				f.SetString(f.String() + "x")
				g.SetString(g.String()[1:])
			}
			all[fmt.Sprint("another ", i, " by field ", j)], all[fmt.Sprint("another ", i, " by less of field ", j)] = more, less
		}
		if i > 0 {
			swapped := slices.Clone(l)
			swapped[i-1], swapped[i] = swapped[i], swapped[i-1]
			all[fmt.Sprint("swapped ", i)] = swapped
		}
	}
	for i := range len(l) + 1 {
		var none E
		all[fmt.Sprint("more ", i)] = slices.Insert(slices.Clone(l), i, none)
	}
	return all
}

// TestP12_3NotOfOnePiece: each single part of each view more, less, another one, or in another order.
func TestP12_3NotOfOnePiece(t *testing.T) {
	for _, events := range [][]api.Event{opened(), seven(), story()} {
		x := snapBehind(t, events)
		for what, l := range others(x.Balances) {
			y := x
			y.Balances = l
			refused(t, "Balances "+what, y, api.ErrView)
		}
		for what, l := range others(x.Days) {
			y := x
			y.Days = l
			refused(t, "Days "+what, y, api.ErrView)
		}
		for what, l := range others(x.Claims) {
			y := x
			y.Claims = l
			refused(t, "Claims "+what, y, api.ErrView)
		}
		for what, l := range others(x.Allots) {
			y := x
			y.Allots = l
			refused(t, "Allots "+what, y, api.ErrView)
		}
		has(t, from(t, x), x)
	}
}

// TestP12_3OtherViews: views that could be for themselves, but are not those of the base.
func TestP12_3OtherViews(t *testing.T) {
	x := snapBehind(t, story())
	less := snapBehind(t, story()[:len(story())-2])
	more := snapBehind(t, append(story(), post(d+80, "n", line(bank, 3), line(ann, -3)), invoice(d+80, "m", ann, work, d+80, 3), allot(d+80, "l", "p1", "m", 2)))
	for what, from := range map[string]api.Snap{"less": less, "more": more} {
		if _, why := sums.From(from.Balances); why != api.OK {
			t.Fatal(why)
		}
		if _, why := daily.From(from.Days); why != api.OK {
			t.Fatal(why)
		}
		if _, why := aged.From(from.Claims, from.Allots, x.AsOf); why != api.OK {
			t.Fatal(why)
		}
		y := x
		y.Balances = from.Balances
		refused(t, "Balances "+what, y, api.ErrView)
		y = x
		y.Days = from.Days
		refused(t, "Days "+what, y, api.ErrView)
		y = x
		y.Claims, y.Allots = from.Claims, from.Allots
		refused(t, "Claims "+what, y, api.ErrView)
		y = x
		y.Base = from.Base
		refused(t, "Base "+what, y, api.ErrView)
		y = from
		y.AsOf = api.MaxDay
		y.Base = x.Base
		refused(t, "all views "+what, y, api.ErrView)
	}
	// The same claims and allotments in another order.
	y := x
	y.Claims = slices.Clone(x.Claims)
	slices.Reverse(y.Claims)
	refused(t, "Claims back to front", y, api.ErrView)
	y = x
	y.Allots = slices.Clone(x.Allots)
	slices.Reverse(y.Allots)
	refused(t, "Allots back to front", y, api.ErrView)
	// Payments are no claims of the view.
	y = x
	y.Claims = x.Base.Payments
	refused(t, "payments for claims", y, api.ErrView)
}

// TestP12_3AsOf: a day, and not before any that the base tells.
func TestP12_3AsOf(t *testing.T) {
	for what, c := range map[string]struct {
		last   int // the first day that is taken
		events []api.Event
	}{
		"nothing":      {1, nil},
		"opened":       {d + 9, append(opened(), open(d+9, "Aaa", api.Asset), open(d+3, "New", api.Asset))},
		"opened last":  {d + 9, append(opened(), open(d+3, "New", api.Asset), open(d+9, "Zzz", api.Asset))},
		"closed":       {d, append(opened(), open(d, "New", api.Asset), shut(d+9, "New"))},
		"row":          {d + 9, append(opened(), post(d+9, "x", line(bank, 5), line(ann, -5)), post(d+3, "y", line(bank, 5), line(ann, -5)))},
		"row last":     {d + 9, append(opened(), post(d+3, "x", line(bank, 5), line(ann, -5)), post(d+9, "y", line(bank, 5), line(ann, -5)))},
		"void":         {d + 9, append(opened(), post(d+3, "x", line(bank, 5), line(ann, -5)), void(d+9, "y", "x"))},
		"invoice":      {d + 9, append(opened(), invoice(d+9, "x", ann, work, d+50, 5))},
		"payment":      {d + 9, append(opened(), pay(d+9, "x", ann, bank, 5))},
		"allot":        {d + 9, append(opened(), invoice(d+2, "i", ann, work, d+50, 5), pay(d+2, "p", ann, bank, 5), allot(d+9, "x", "p", "i", 1), allot(d+3, "y", "p", "i", 1))},
		"allot last":   {d + 9, append(opened(), invoice(d+2, "i", ann, work, d+50, 5), pay(d+2, "p", ann, bank, 5), allot(d+3, "x", "p", "i", 1), allot(d+9, "y", "p", "i", 1))},
		"lock":         {d + 9, append(opened(), lock(d+2), lock(d+9))},
		"the last day": {api.MaxDay, append(opened(), lock(api.MaxDay))},
	} {
		x := snapBehind(t, c.events)
		for _, day := range []int{0, -1, least, least + 1, c.last - 1, c.last - 2, d - 1, api.MaxDay + 1, api.MaxDay + 2, greatest} {
			if x.AsOf = day; day < c.last || day > api.MaxDay {
				refused(t, fmt.Sprint(what, ": day ", day), x, api.ErrView)
			}
		}
		for _, day := range []int{c.last, min(c.last+1, api.MaxDay), max(c.last, d+10), max(c.last, d+1000), api.MaxDay} {
			x.AsOf = day
			has(t, from(t, x), x)
		}
	}
}

// TestP12_3DayStays: a day behind all events is the set's own, from which it goes on.
func TestP12_3DayStays(t *testing.T) {
	x := snapBehind(t, seven())
	x.AsOf = d + 100
	s := from(t, x)
	for _, c := range []struct {
		e    api.Event
		want int
	}{{post(d+99, "a", line(bank, 5), line(ann, -5)), d + 100}, {post(d+100, "b", line(bank, 5), line(ann, -5)), d + 100}, {post(d+101, "c", line(bank, 5), line(ann, -5)), d + 101}} {
		if why := s.Apply(c.e); why != api.OK || s.Aged().AsOf() != c.want || s.Snap().AsOf != c.want {
			t.Errorf("%+v: %d; the views' day is %d, want %d", c.e, why, s.Aged().AsOf(), c.want)
		}
	}
	if got := s.Aged().Now(ann); got != (api.Ages{0, 0, 0, 10000, 0}) {
		t.Errorf("Now: %v", got)
	}
}

// TestP12_3Base: what the books refuse is refused ahead of all else.
func TestP12_3Base(t *testing.T) {
	for what, spoil := range map[string]func(b *api.Base){
		"too many events":        func(b *api.Base) { b.Events = 1001 },
		"events below 0":         func(b *api.Base) { b.Events = -1 },
		"fewer events":           func(b *api.Base) { b.Events = len(b.Keys) },
		"a key less":             func(b *api.Base) { b.Keys = b.Keys[1:] },
		"a key twice":            func(b *api.Base) { b.Keys[0] = b.Keys[1] },
		"an account less":        func(b *api.Base) { b.Accounts = b.Accounts[1:] },
		"no accounts":            func(b *api.Base) { b.Accounts = nil },
		"a row less":             func(b *api.Base) { b.Rows = b.Rows[1:] },
		"another amount":         func(b *api.Base) { b.Rows[0].Amount++ },
		"the least amount":       func(b *api.Base) { b.Rows[0].Amount = least },
		"no account's name":      func(b *api.Base) { b.Rows[0].Account = "a" },
		"no day":                 func(b *api.Base) { b.Rows[0].Day, b.Rows[1].Day = 0, 0 },
		"an entry less":          func(b *api.Base) { b.Entries = b.Entries[1:] },
		"an invoice less":        func(b *api.Base) { b.Invoices = b.Invoices[1:] },
		"a payment less":         func(b *api.Base) { b.Payments = b.Payments[1:] },
		"an allotment more":      func(b *api.Base) { b.Allots = append(b.Allots, b.Allots[0]) },
		"an allotment too large": func(b *api.Base) { b.Allots[0].Amount = 9999 },
		"a lock that is no day":  func(b *api.Base) { b.Lock = api.MaxDay + 1 },
		"a lock below 0":         func(b *api.Base) { b.Lock = -1 },
	} {
		x := snapBehind(t, story())
		spoil(&x.Base)
		refused(t, what, x, api.ErrBase)
		x.Claims, x.Allots = x.Base.Invoices, x.Base.Allots
		refused(t, what+", the views with it", x, api.ErrBase)
		x.AsOf, x.Balances, x.Days = 0, nil, nil
		refused(t, what+", and no views", x, api.ErrBase)
	}
}

// TestP12_3Unmade: a base that no events have made, but that the books take, is taken.
func TestP12_3Unmade(t *testing.T) {
	x := api.Snap{
		Base: api.Base{
			Events:   5,
			Keys:     []string{"k"},
			Accounts: []api.Account{{Name: "A", Type: api.Asset, Opened: 5}, {Name: "B", Type: api.Asset, Opened: 5, Closed: true}},
			Rows:     []api.Posting{{Seq: 1, Line: 1, Day: 7, Kind: api.KPost, Key: "k", Account: "A", Amount: 3}, {Seq: 1, Line: 2, Day: 7, Kind: api.KPost, Key: "k", Account: "A", Amount: -3}},
			Entries:  []api.Entry{{Key: "k", Day: 7, Lines: []api.Line{line("A", 3), line("A", -3)}}},
			Lock:     9,
		},
		AsOf: 9,
	}
	s := from(t, x)
	has(t, s, x)
	if why := s.Apply(post(9, "n", line("A", 1), line("A", -1))); why != api.ErrLocked {
		t.Errorf("a locked day: %d", why)
	}
	if why := s.Apply(post(10, "n", line("A", 1), line("B", -1))); why != api.ErrClosed {
		t.Errorf("a closed account: %d", why)
	}
	has(t, s, x)
	if why := s.Apply(void(10, "v", "k")); why != api.OK || s.Book().Len() != 6 || s.Aged().AsOf() != 10 {
		t.Errorf("%d, Len %d", why, s.Book().Len())
	}
	has(t, from(t, s.Snap()), s.Snap())
	x.AsOf = 8
	refused(t, "a day ahead of the lock", x, api.ErrView)
}

// TestP12_8ACheckpointIsEnough: the Snap behind the first n events, and a Replay from n, is the set behind all.
func TestP12_8ACheckpointIsEnough(t *testing.T) {
	events := story()
	l, _ := logOf(t, 64, events)
	want := plainSnap(t, events)
	for n := range len(events) + 1 {
		s := from(t, snapBehind(t, events[:n]))
		if why := s.Replay(l, n); why != api.OK {
			t.Fatalf("Replay from %d: %d", n, why)
		}
		has(t, s, want)
		// And in two pieces, with a checkpoint between.
		for m := n; m <= len(events); m += 3 {
			s := from(t, snapBehind(t, events[:n]))
			for _, e := range events[n:m] {
				s.Apply(e)
			}
			s = from(t, s.Snap())
			if why := s.Replay(l, m); why != api.OK {
				t.Fatalf("Replay from %d: %d", m, why)
			}
			has(t, s, want)
		}
	}
}
