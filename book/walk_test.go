package book

import (
	"math/big"
	"math/rand/v2"
	"slices"
	"strconv"
	"testing"

	"daybook/api"
)

func pick[T any](r *rand.Rand, from ...T) T { return from[r.IntN(len(from))] }

func poolNames() []string {
	return []string{"A", "A:B", "A:B:C", "A:C", "A:C:D", "A-1", "E", "E:F", "E:G", "L", "X", "Z:Y", "Zz"}
}

func typeOf(name string) int {
	return map[byte]int{'A': api.Asset, 'E': api.Income, 'L': api.Liability, 'X': api.Expense, 'Z': api.Equity}[name[0]]
}

// anyName: mostly one that was opened.
func anyName(r *rand.Rand, m *model) string {
	if len(m.Accounts) > 0 && r.IntN(8) > 0 {
		return m.Accounts[r.IntN(len(m.Accounts))].Name
	}
	return pick(r, poolNames()...)
}

// typedName: mostly one of that type that is open.
func typedName(r *rand.Rand, m *model, typ int) string {
	var fit []string
	for _, a := range m.Accounts {
		if a.Type == typ && !a.Closed {
			fit = append(fit, a.Name)
		}
	}
	if len(fit) == 0 || r.IntN(10) == 0 {
		return anyName(r, m)
	}
	return fit[r.IntN(min(len(fit), 4))]
}

// anyKey: mostly a new one.
func anyKey(r *rand.Rand, m *model) string {
	if len(m.Keys) > 0 && r.IntN(10) == 0 {
		return pick(r, m.Keys...)
	}
	return pick(r, "k", "i.", "p_", "-") + strconv.Itoa(r.IntN(5000))
}

// anyRef: mostly one of those that are fit.
func anyRef(r *rand.Rand, m *model, fit []string) string {
	if len(fit) > 0 && r.IntN(12) > 0 {
		return pick(r, fit...)
	}
	return anyKey(r, m)
}

// anyDay: mostly behind the last locked one, and the last one on which an account was opened.
func anyDay(r *rand.Rand, m *model) int {
	from := m.Lock
	for _, a := range m.Accounts {
		from = max(from, a.Opened-pick(r, 0, 0, 0, 1, 5))
	}
	return max(0, from+pick(r, -1, 0, 1, 1, 2, 3, 5, 8))
}

func anyAmount(r *rand.Rand) int64 {
	if r.IntN(20) == 0 {
		return max(1, r.Int64()>>r.IntN(8))
	}
	return pick(r, 1, 2, 3, 5, 8, 1+r.Int64N(1000))
}

// anyLines: of a posting, mostly with the sum 0.
func anyLines(r *rand.Rand, m *model) (l []api.Line) {
	rest := int64(0)
	for range 1 + pick(r, 1, 1, 1, 2, 3, 10, 11, 12) {
		n := anyAmount(r) / pick[int64](r, 2, 16) * pick[int64](r, 1, -1)
		l = append(l, line(anyName(r, m), n|1, pick(r, "", "", "t", "u-2")))
		rest -= n | 1
	}
	if rest != 0 && r.IntN(8) > 0 {
		l[len(l)-1].Amount += rest
	}
	return l
}

// anyEvent: one of any kind, of which books with such a base take about every second one.
func anyEvent(r *rand.Rand, m *model) api.Event {
	day, key := anyDay(r, m), anyKey(r, m)
	var posts, pays, bills []string
	for _, e := range m.Entries {
		if e.Void == "" || r.IntN(4) == 0 {
			posts = append(posts, e.Key)
		}
	}
	for _, c := range m.Payments {
		pays = append(pays, c.Key)
	}
	for _, c := range m.Invoices {
		bills = append(bills, c.Key)
	}
	e := api.Event{}
	switch pick(r, 1, 1, 2, 3, 3, 3, 3, 4, 4, 5, 5, 5, 5, 6, 6, 6, 6, 7, 7, 7, 7, 7, 7, pick(r, 2, 5, 8)) {
	case api.KOpen:
		e = anyOpen(r, max(0, day-r.IntN(10)))
	case api.KClose:
		e = shut(max(0, day-2+r.IntN(10)), anyName(r, m))
	case api.KPost:
		e = post(day, key, anyLines(r, m)...)
	case api.KVoid:
		e = void(day+r.IntN(5), key, anyRef(r, m, posts))
	case api.KInvoice:
		e = invoice(day, key, typedName(r, m, api.Asset), typedName(r, m, api.Income), day+r.IntN(100), anyAmount(r))
	case api.KPay:
		e = pay(day, key, typedName(r, m, api.Asset), typedName(r, m, api.Asset), anyAmount(r))
	case api.KAllot:
		e = anyAllot(r, m, allot(day+r.IntN(8), key, anyRef(r, m, pays), anyRef(r, m, bills), anyAmount(r)))
	case api.KLock:
		e = lock(pick(r, m.Lock+1, m.Lock+2, m.Lock, day-8))
	}
	if e.Kind >= api.KPost && e.Kind <= api.KPay {
		e.Memo = pick(r, "", "", "m", "another memo")
	}
	if r.IntN(40) == 0 {
		spoil(r, &e)
	}
	return e
}

// spoil: an event with which mostly something is wrong, whatever the books are.
func spoil(r *rand.Rand, e *api.Event) {
	switch r.IntN(8) {
	case 0:
		e.Day = pick(r, 0, -1, least, api.MaxDay+1, greatest)
	case 1:
		e.Kind = pick(r, 0, -1, 9, greatest, least, 1+r.IntN(8))
	case 2:
		e.Key += pick(r, " ", "\n", "a key that is far too long")
	case 3:
		e.Amount = pick(r, 0, -1, least, -e.Amount)
	case 4:
		e.Account += pick(r, ":", "a", ":b", "\xff")
	case 5:
		e.Lines = append(e.Lines, line("A", pick[int64](r, 0, least, 1)))
	case 6:
		e.Ref, e.Ref2 = e.Ref2, e.Ref+pick(r, "", "x", "?")
	case 7:
		e.Type, e.Due = e.Type+1, e.Due-pick(r, 1, 5, 100)
	}
}

func anyOpen(r *rand.Rand, day int) api.Event {
	e := open(day, pick(r, poolNames()...))
	if len(e.Account) < 3 || e.Account[1] != ':' {
		e.Type = typeOf(e.Account)
	}
	return e
}

// somehow: books with some accounts.
func somehow(t *testing.T, r *rand.Rand) *both {
	t.Helper()
	x := begun(t)
	for range 10 + r.IntN(40) {
		x.tell(anyOpen(r, r.IntN(12)))
	}
	return x
}

// anyAllot: mostly of one account, and often of just what is left of one or the other.
func anyAllot(r *rand.Rand, m *model, e api.Event) api.Event {
	from, _ := claimOf(m.Payments, e.Ref)
	for _, c := range m.Invoices {
		if c.Account == from.Account && r.IntN(3) == 0 {
			e.Ref2 = c.Key
		}
	}
	p, _ := m.left(e.Ref)
	i, _ := m.left(e.Ref2)
	if n := pick(r, p, i, min(p, i), min(p, i), min(p, i)+1); n > 0 && r.IntN(4) > 0 {
		e.Amount = n
	}
	return e
}

// laws: what 7.3 says of one event that was told, without the model.
func laws(t *testing.T, b *Book, before api.Base, turnover int64, lockedAt int, rows []api.Posting) {
	t.Helper()
	sum, sizes := new(big.Int), new(big.Int)
	for _, row := range rows {
		sum.Add(sum, big.NewInt(row.Amount))
		sizes.Add(sizes, new(big.Int).Abs(big.NewInt(row.Amount)))
		if row.Day <= lockedAt {
			t.Fatalf("a row of a locked day: %v", row)
		}
		for _, a := range before.Accounts {
			if a.Name == row.Account && a.Closed {
				t.Fatalf("a row on a closed account: %v", row)
			}
		}
	}
	if grown := new(big.Int).Add(sizes, big.NewInt(turnover)); sum.Sign() != 0 || !grown.IsInt64() || grown.Int64() != b.Turnover() {
		t.Fatalf("the rows %v: sum %d; turnover %d, then %d", rows, sum, turnover, b.Turnover())
	}
	if b.Lock() < lockedAt {
		t.Fatalf("Lock %d, then %d", lockedAt, b.Lock())
	}
	base := b.Base()
	own := owns(base)
	for _, a := range base.Accounts {
		if a.Closed && own[a.Name] != 0 {
			t.Fatalf("%s is closed and has %d", a.Name, own[a.Name])
		}
	}
	if paid, billed := allotted(t, b, base.Payments), allotted(t, b, base.Invoices); paid.Cmp(billed) != 0 {
		t.Fatalf("allotted of payments %d, to invoices %d", paid, billed)
	}
}

// owns: each account's own balance; they wrap round nowhere, as the turnover is bound.
func owns(base api.Base) map[string]int64 {
	m := map[string]int64{}
	for _, row := range base.Rows {
		m[row.Account] += row.Amount
	}
	return m
}

// allotted: what is gone of all claims, each with something from 0 to all of it left.
func allotted(t *testing.T, b *Book, l []api.Claim) *big.Int {
	t.Helper()
	sum := new(big.Int)
	for _, c := range l {
		n, is := b.Left(c.Key)
		if !is || n < 0 || n > c.Amount {
			t.Fatalf("Left(%q): %d, %v, of %d", c.Key, n, is, c.Amount)
		}
		sum.Add(sum, big.NewInt(c.Amount-n))
	}
	return sum
}

// walk: n events more, told to books, to the model, and to books that were made of the base on the way. How many were answered so, by their kind.
func walk(x *both, r *rand.Rand, n int) map[int]map[api.Errno]int {
	x.t.Helper()
	answers := map[int]map[api.Errno]int{}
	twin := made(x.t, x.b.Base()).b
	for i := range n {
		e := anyEvent(r, x.m)
		before, turnover, lockedAt := x.b.Base(), x.b.Turnover(), x.b.Lock()
		rows, why := x.tell(e)
		laws(x.t, x.b, before, turnover, lockedAt, rows)
		if again, whyNot := twin.Apply(e); whyNot != why || !slices.Equal(again, rows) {
			x.t.Fatalf("From(Base()).Apply(%+v): %v, %d, want %v, %d", e, again, whyNot, rows, why)
		}
		if answers[e.Kind] == nil {
			answers[e.Kind] = map[api.Errno]int{}
		}
		answers[e.Kind][why]++
		if why != api.OK {
			if _, again := x.tell(e); again != why || !same(x.b.Base(), before) {
				x.t.Fatalf("%+v: refused with %d, then with %d, or the books were changed", e, why, again)
			}
		}
		if i%5 == 0 {
			alike(x.t, x.b, x.m)
		}
		if r.IntN(9) == 0 {
			twin = made(x.t, x.b.Base()).b
		}
		if r.IntN(40) == 0 {
			x.b = made(x.t, x.b.Base()).b
		}
	}
	alike(x.t, x.b, x.m)
	return answers
}

// TestP7_5To12Walks: random events, of which every call's answer is held against the model.
func TestP7_5To12Walks(t *testing.T) {
	all := map[int]map[api.Errno]int{}
	for n := range uint64(90) {
		r := source(n)
		x := somehow(t, r)
		for kind, answers := range walk(x, r, 160) {
			for why, times := range answers {
				if all[kind] == nil {
					all[kind] = map[api.Errno]int{}
				}
				all[kind][why] += times
			}
		}
		if l := broken(x.b.Base()); len(l) > 0 {
			t.Fatalf("Base breaks the rules %v", l)
		}
	}
	for kind, order := range reasonsByKind() {
		if all[kind][api.OK] < 60 {
			t.Errorf("of kind %d only %d were taken", kind, all[kind][api.OK])
		}
		for _, why := range order {
			can := why != api.ErrMany && !slices.Contains(impossible(kind), [2]api.Errno{why, why})
			if can && all[kind][why] == 0 {
				t.Errorf("of kind %d none was refused with %d", kind, why)
			}
		}
	}
}

// TestP7_13InAnyOrder: two events that were taken one directly behind the other, the other way round.
func TestP7_13InAnyOrder(t *testing.T) {
	r, done := source(13), 0
	for range 30 {
		x := somehow(t, r)
		walk(x, r, 60)
		for range 100 {
			e, f := anyEvent(r, x.m), anyEvent(r, x.m)
			if min(e.Kind, f.Kind) < api.KPost || max(e.Kind, f.Kind) > api.KPay || e.Kind == api.KVoid || f.Kind == api.KVoid {
				continue
			}
			one, two := made(t, x.b.Base()).b, made(t, x.b.Base()).b
			if _, why := one.Apply(e); why != api.OK {
				continue
			}
			if _, why := one.Apply(f); why != api.OK {
				continue
			}
			done++
			_, first := two.Apply(f)
			_, second := two.Apply(e)
			if first != api.OK || second != api.OK {
				t.Fatalf("%+v, then %+v: %d, %d", f, e, first, second)
			}
			sameSums(t, one, two)
		}
	}
	if done < 100 {
		t.Errorf("only %d pairs were taken", done)
	}
}

func sameSums(t *testing.T, one, two *Book) {
	t.Helper()
	a, b := one.Base(), two.Base()
	own, other := owns(a), owns(b)
	for _, x := range a.Accounts {
		if own[x.Name] != other[x.Name] {
			t.Fatalf("%s: %d and %d", x.Name, own[x.Name], other[x.Name])
		}
	}
	for _, key := range a.Keys {
		n, is := one.Left(key)
		if m, are := two.Left(key); n != m || is != are {
			t.Fatalf("Left(%q): %d, %v and %d, %v", key, n, is, m, are)
		}
	}
	if one.Turnover() != two.Turnover() {
		t.Fatalf("Turnover %d and %d", one.Turnover(), two.Turnover())
	}
}

// TestP7_9Void: directly behind its posting.
func TestP7_9Void(t *testing.T) {
	r, done := source(9), 0
	for range 20 {
		x := somehow(t, r)
		walk(x, r, 40)
		for range 20 {
			e := post(anyDay(r, x.m), anyKey(r, x.m), anyLines(r, x.m)...)
			before, turnover := owns(x.b.Base()), x.b.Turnover()
			if _, why := x.tell(e); why != api.OK {
				continue
			}
			sizes := x.b.Turnover() - turnover
			back := void(e.Day+r.IntN(3), "void-"+strconv.Itoa(done), e.Key)
			if _, why := x.tell(back); why != api.OK {
				if why != api.ErrOverflow || x.b.Turnover() <= api.MaxAmount-sizes {
					t.Fatalf("%+v: %d", back, why)
				}
				continue
			}
			done++
			after := owns(x.b.Base())
			for _, l := range e.Lines {
				if before[l.Account] != after[l.Account] {
					t.Fatalf("%s: %d, then %d", l.Account, before[l.Account], after[l.Account])
				}
			}
			if x.b.Turnover() != turnover+2*sizes {
				t.Fatalf("Turnover %d, then %d", turnover, x.b.Turnover())
			}
			x.refuse(api.ErrVoided, void(back.Day, "again", e.Key))
		}
	}
	if done < 50 {
		t.Errorf("only %d were voided", done)
	}
}
