package aged

import (
	"slices"
	"strconv"
	"testing"

	"daybook/api"
)

// isAView: lists that From must take, and what it makes of them.
func isAView(t *testing.T, claims []api.Claim, allots []api.Allot, day int) {
	t.Helper()
	if !valid(claims, allots, day) {
		t.Fatalf("the model refuses %v, %v, %d", claims, allots, day)
	}
	a, e := From(claims, allots, day)
	if e != api.OK || a == nil {
		t.Fatalf("From(%v, %v, %d): %d", claims, allots, day, e)
	}
	alike(t, a, model{claims, allots, day})
}

// notAView: lists that From must refuse.
func notAView(t *testing.T, claims []api.Claim, allots []api.Allot, day int) {
	t.Helper()
	if valid(claims, allots, day) {
		t.Fatalf("the model takes %v, %v, %d", claims, allots, day)
	}
	if a, e := From(claims, allots, day); e != api.ErrView || a != nil {
		t.Fatalf("From(%v, %v, %d): %v, %d", claims, allots, day, a, e)
	}
}

// good: lists that are a view's.
func good() ([]api.Claim, []api.Allot) {
	return []api.Claim{inv("i1", "ann", d, d+30, 100), inv("i2", "ann", d+10, d+10, 50), inv("i3", "bob", d-100, d-100, 7), inv("i4", "", firstDay, lastDay, 9)},
		[]api.Allot{alt("p1", "i1", d+20, 60), alt("p2", "i1", d, 40), alt("p1", "i3", d-100, 6), alt("", "i4", lastDay, 1), alt("p1", "i4", firstDay, 8)}
}

func TestP10_8FromTakes(t *testing.T) {
	claims, allots := good()
	for _, day := range []int{firstDay, firstDay + 1, d - 100, d - 1, d, d + 1, d + 20, d + 31, d + 121, lastDay - 1, lastDay} {
		isAView(t, nil, nil, day)
		isAView(t, []api.Claim{}, []api.Allot{}, day)
		isAView(t, claims, nil, day)
		isAView(t, claims, allots, day)
		for i := range allots {
			isAView(t, claims, slices.Delete(slices.Clone(allots), i, i+1), day)
		}
	}
	slices.Reverse(claims)
	isAView(t, claims, allots, d)
	slices.Reverse(allots)
	isAView(t, claims, allots, d)
}

func TestP10_8FromDay(t *testing.T) {
	claims, allots := good()
	for _, day := range badDays() {
		notAView(t, nil, nil, day)
		notAView(t, claims, nil, day)
		notAView(t, claims, allots, day)
	}
}

// TestP10_8FromClaims: each cause alone, at each place.
func TestP10_8FromClaims(t *testing.T) {
	claims, allots := good()
	for i, c := range claims {
		for _, change := range []func(*api.Claim){
			func(c *api.Claim) { c.Day = 0 }, func(c *api.Claim) { c.Day = lastDay + 1 }, func(c *api.Claim) { c.Due = 0 }, func(c *api.Claim) { c.Due = lastDay + 1 }, func(c *api.Claim) { c.Due = c.Day - 1 }, func(c *api.Claim) { c.Amount = 0 }, func(c *api.Claim) { c.Amount = -1 }, func(c *api.Claim) { c.Amount = least },
			func(c *api.Claim) { c.Amount = most - 50 }, func(c *api.Claim) { c.Key = claims[(i+1)%len(claims)].Key },
		} {
			bad := c
			change(&bad)
			l := slices.Clone(claims)
			l[i] = bad
			notAView(t, l, nil, d)
			notAView(t, l, allots, d)
		}
		for at := range len(claims) + 1 {
			notAView(t, slices.Insert(slices.Clone(claims), at, c), allots, d)
			notAView(t, slices.Insert(slices.Clone(claims), at, inv("n", "ann", d, d, most-165)), allots, d)
			isAView(t, slices.Insert(slices.Clone(claims), at, inv("n", "ann", d, d, most-166)), allots, d)
			isAView(t, slices.Insert(slices.Clone(claims), at, inv("n", c.Account, c.Day, c.Due, c.Amount)), allots, d)
		}
	}
}

// TestP10_8FromAllots: each cause alone, at each place; claims come ahead of all allotments.
func TestP10_8FromAllots(t *testing.T) {
	claims, allots := good()
	for i, x := range allots {
		for _, change := range []func(*api.Allot){
			func(x *api.Allot) { x.Day = 0 }, func(x *api.Allot) { x.Day = lastDay + 1 }, func(x *api.Allot) { x.Amount = 0 }, func(x *api.Allot) { x.Amount = -1 }, func(x *api.Allot) { x.Amount = least }, func(x *api.Allot) { x.Amount = most }, func(x *api.Allot) { x.Invoice = "i9" }, func(x *api.Allot) { x.Invoice = x.Pay + " " },
		} {
			bad := x
			change(&bad)
			l := slices.Clone(allots)
			l[i] = bad
			notAView(t, claims, l, d)
		}
		for at := range len(allots) + 1 {
			notAView(t, claims, slices.Insert(slices.Clone(allots), at, alt("p", "i1", d, 1)), d)
			notAView(t, claims, slices.Insert(slices.Clone(allots), at, alt("p", "i2", d+10, 51)), d)
			notAView(t, claims, slices.Insert(slices.Clone(allots), at, alt("p", "i2", d+9, 1)), d)
			isAView(t, claims, slices.Insert(slices.Clone(allots), at, alt("p", "i2", d+10, 50)), d)
		}
	}
	notAView(t, claims[1:], allots, d)
	notAView(t, claims[:3], allots, d)
	notAView(t, nil, allots, d)
	isAView(t, claims[:1], allots[:2], d)
}

func TestP10_8FromAsManyAsMayBe(t *testing.T) {
	claims := []api.Claim{}
	allots := []api.Allot{}
	for i := range manyMost {
		claims = append(claims, inv("c"+strconv.Itoa(i), "ann", d, d, 2))
		allots = append(allots, alt("p", "c"+strconv.Itoa(i), d, 1))
	}
	a, e := From(claims, allots, d)
	if e != api.OK || !slices.Equal(a.Claims(), claims) || !slices.Equal(a.Allots(), allots) || a.Now("ann") != (api.Ages{manyMost}) {
		t.Errorf("as many as may be: %d", e)
	}
	if _, e := From(append(claims, inv("n", "ann", d, d, 1)), allots, d); e != api.ErrView {
		t.Errorf("one claim more: %d", e)
	}
	if _, e := From(claims, append(allots, alt("p", "c1", d, 1)), d); e != api.ErrView {
		t.Errorf("one allotment more: %d", e)
	}
}

// TestP10_8FromAnyList: lists that are nearly a view's, held against the chapter's words.
func TestP10_8FromAnyList(t *testing.T) {
	r := source(2)
	days := []int{firstDay, 2, 3, 40, lastDay, 0, lastDay + 1}
	amounts := []int64{1, 2, 3, 4, 5, most - 12, 0, -1}
	keys := []string{"", "a", "b", "ab", "c"}
	met := map[bool]int{}
	for range 30000 {
		wrong := 20 // how seldom something is out of its range
		pick := func(n, all int) int {
			if r.IntN(wrong) == 0 {
				return r.IntN(all)
			}
			return r.IntN(n)
		}
		var claims []api.Claim
		for i := range r.IntN(5) {
			day := days[pick(5, 7)]
			due := max(day, days[r.IntN(5)])
			if r.IntN(wrong) == 0 {
				due = days[r.IntN(7)]
			}
			key := keys[i]
			if r.IntN(wrong) == 0 {
				key = keys[r.IntN(5)]
			}
			claims = append(claims, inv(key, "ann", day, due, amounts[pick(5, 8)]))
		}
		var allots []api.Allot
		for range r.IntN(4) {
			allots = append(allots, alt("p", keys[pick(max(1, len(claims)), 5)], days[2+r.IntN(3)], amounts[pick(2, 8)]))
		}
		day := days[pick(5, 7)]
		met[valid(claims, allots, day)]++
		if valid(claims, allots, day) {
			isAView(t, claims, allots, day)
			continue
		}
		notAView(t, claims, allots, day)
	}
	if met[true] < 5000 || met[false] < 5000 {
		t.Errorf("lists: %v", met)
	}
}
