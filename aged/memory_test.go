package aged

import (
	"slices"
	"testing"

	"daybook/api"
)

// scratch writes over a list, its spare room too.
func scratch[E any](l []E, with E) {
	l = l[:cap(l)]
	for i := range l {
		l[i] = with
	}
}

// spared: a copy with room behind it.
func spared[E any](l []E) []E { return slices.Grow(slices.Clone(l), 9) }

// untouched: whether a list is as it was, and nothing was written to the room behind it.
func untouched[E comparable](l, was []E) bool {
	var none E
	return slices.Equal(l, was) && !slices.ContainsFunc(l[len(l):cap(l)], func(e E) bool { return e != none })
}

func TestFromKeepsNothing(t *testing.T) {
	wasClaims, wasAllots := good()
	claims, allots := spared(wasClaims), spared(wasAllots)
	a, e := From(claims, allots, d)
	if e != api.OK || !untouched(claims, wasClaims) || !untouched(allots, wasAllots) {
		t.Fatalf("%d, or the lists were changed: %v, %v", e, claims, allots)
	}
	x := &both{t, a, model{wasClaims, wasAllots, d}}
	x.invoices(api.OK, inv("n", "ann", d, d, 5))
	x.allotments(api.OK, alt("p", "n", d, 2), alt("p", "i2", d+11, 2))
	x.goesTo(api.OK, d+50)
	if !untouched(claims, wasClaims) || !untouched(allots, wasAllots) {
		t.Errorf("the lists were changed later: %v, %v", claims, allots)
	}
	scratch(claims, inv("x", "x", 9, 9, 9))
	scratch(allots, alt("x", "x", 9, 9))
	alike(t, x.a, x.m)

	claims, allots = spared(append(wasClaims, inv("n", "ann", d, d, 0))), spared(wasAllots)
	was := slices.Clone(claims)
	if _, e := From(claims, allots, d); e != api.ErrView || !untouched(claims, was) || !untouched(allots, wasAllots) {
		t.Errorf("%d, or the lists were changed: %v", e, claims)
	}
}

func TestAnswersAreNobodys(t *testing.T) {
	x := some(t)
	for n := range 3 {
		claims, allots, open := x.a.Claims(), x.a.Allots(), x.a.Open("ann", d+15)
		claims2, allots2, open2 := x.a.Claims(), x.a.Allots(), x.a.Open("ann", d+15)
		claimsWere, allotsWere, openWas := slices.Clone(x.m.claims), slices.Clone(x.m.allots), x.m.open("ann", d+15)
		scratch(claims, inv("x", "x", 9, 9, 9))
		scratch(allots, alt("x", "x", 9, 9))
		scratch(open, inv("x", "x", 9, 9, 9))
		if !slices.Equal(claims2, claimsWere) || !slices.Equal(allots2, allotsWere) || !slices.Equal(open2, openWas) {
			t.Fatal("two answers share memory")
		}
		alike(t, x.a, x.m)
		x.invoices(api.OK, inv("n"+string(rune('0'+n)), "ann", d, d, 5))
		x.allotments(api.OK, alt("p", "i1", d, 1), alt("p", "n"+string(rune('0'+n)), d, 5))
		x.goesTo(api.OK, x.m.day+9)
		if !slices.Equal(claims2, claimsWere) || !slices.Equal(allots2, allotsWere) || !slices.Equal(open2, openWas) {
			t.Fatal("an answer was changed later")
		}
		alike(t, x.a, x.m)
	}
	// Ages are values.
	now, at := x.a.Now("ann"), x.a.At("ann", d)
	now[0], at[0] = -1, -1
	alike(t, x.a, x.m)
	// What is handed to From is not what is handed out later.
	claims, allots := x.a.Claims(), x.a.Allots()
	y, _ := From(claims, allots, d)
	scratch(y.Claims(), inv("x", "x", 9, 9, 9))
	scratch(y.Allots(), alt("x", "x", 9, 9))
	if !slices.Equal(claims, x.m.claims) || !slices.Equal(allots, x.m.allots) {
		t.Error("an answer shares memory with From's argument")
	}
}

// TestTwoViews: they know nothing of one another, though one was made of the other.
func TestTwoViews(t *testing.T) {
	x, other := some(t), fresh(t)
	y := &both{t, copyOf(t, x.a), x.m}
	x.invoices(api.OK, inv("n", "ann", d, d, 5))
	x.allotments(api.OK, alt("p", "i1", d, 30))
	x.goesTo(api.OK, d+99)
	alike(t, y.a, y.m)
	alike(t, other.a, other.m, "ann", "bob")
	y.allotments(api.ErrRef, alt("p", "n", d, 1))
	y.invoices(api.OK, inv("n", "bob", d-7, d, 6))
	y.allotments(api.OK, alt("p", "i1", d+9, 29), alt("p", "i5", d+300, 999))
	y.goesTo(api.OK, d+8)
	alike(t, x.a, x.m)
	alike(t, other.a, other.m, "ann", "bob")
	other.invoices(api.OK, inv("i1", "ann", d, d, most))
	alike(t, x.a, x.m)
	alike(t, y.a, y.m)
	alike(t, New(), fresh(t).m, "ann")
}

// TestAskingChangesNothing: whatever is asked, however often.
func TestAskingChangesNothing(t *testing.T) {
	x := some(t)
	for range 3 {
		for _, account := range append(texts(), x.m.accounts()...) {
			x.a.Now(account)
			for _, day := range append(badDays(), firstDay, d, d+20, lastDay) {
				x.a.At(account, day)
				x.a.Open(account, day)
			}
		}
		alike(t, x.a, x.m, texts()...)
	}
	// Nor is it noticed in what goes on.
	x.invoices(api.OK, inv("new", "nobody", d, d, 1))
	x.goesTo(api.OK, d+40)
	alike(t, x.a, x.m)
	alike(t, copyOf(t, x.a), x.m)
}
