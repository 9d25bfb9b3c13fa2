package aged

import (
	"slices"
	"testing"

	"daybook/api"
)

// ask: ages that an account must have at a day.
type ask struct {
	account string
	day     int
	want    api.Ages
}

func (x *both) ages(l ...ask) {
	x.t.Helper()
	for _, q := range l {
		if got := x.a.At(q.account, q.day); got != q.want {
			x.t.Errorf("At(%s, %d): %v, want %v", q.account, q.day, got, q.want)
		}
	}
}

// TestExamples: all of 10.3, on one view.
func TestExamples(t *testing.T) {
	x := fresh(t)
	// 1
	x.invoices(api.OK, inv("i1", "ann", d, d+30, 100))
	x.invoices(api.ErrTwice, inv("i1", "ann", d, d+30, 100))
	x.invoices(api.ErrArg, inv("i2", "ann", d, d-1, 5))
	x.invoices(api.OK, inv("i2", "ann", d+10, d+10, 50))
	x.invoices(api.ErrOverflow, inv("i3", "bob", d+40, d+50, most))
	x.invoices(api.OK, inv("i3", "bob", d+40, d+50, 7))
	x.invoices(api.ErrArg, inv("i4", "bob", 0, d, 7), inv("i4", "bob", d, d, 0), inv("i4", "bob", d, d, -1))
	// 2
	x.ages(ask{"ann", d - 1, api.Ages{}}, ask{"ann", d, api.Ages{100}}, ask{"ann", d + 10, api.Ages{150}}, ask{"ann", d + 11, api.Ages{100, 50}}, ask{"ann", d + 40, api.Ages{0, 150}}, ask{"ann", d + 41, api.Ages{0, 100, 50}}, ask{"ann", d + 121, api.Ages{0, 0, 0, 0, 150}},
		ask{"bob", d + 39, api.Ages{}}, ask{"cid", d, api.Ages{}}, ask{"ann", 0, api.Ages{}}, ask{"ann", 3652060, api.Ages{}})
	// 3
	x.allotments(api.ErrEarly, alt("p1", "i1", d-1, 10))
	x.allotments(api.ErrRef, alt("p1", "i9", d, 10))
	x.allotments(api.ErrOver, alt("p1", "i1", d, 101))
	x.allotments(api.OK, alt("p1", "i1", d+20, 60))
	x.allotments(api.ErrOver, alt("p2", "i1", d+5, 41))
	x.allotments(api.OK, alt("p2", "i1", d+5, 40))
	x.ages(ask{"ann", d + 4, api.Ages{100}}, ask{"ann", d + 5, api.Ages{60}}, ask{"ann", d + 10, api.Ages{110}}, ask{"ann", d + 20, api.Ages{0, 50}})
	// 4
	i2 := inv("i2", "ann", d+10, d+10, 50)
	if got := x.a.Open("ann", d+10); !slices.Equal(got, []api.Claim{i2, inv("i1", "ann", d, d+30, 60)}) {
		t.Errorf("Open(ann, D + 10): %v", got)
	}
	if got := x.a.Open("ann", d+20); !slices.Equal(got, []api.Claim{i2}) {
		t.Errorf("Open(ann, D + 20): %v", got)
	}
	if got := x.a.Open("ann", 0); len(got) > 0 {
		t.Errorf("Open(ann, 0): %v", got)
	}
	// 5
	if got := x.a.AsOf(); got != 1 {
		t.Errorf("AsOf: %d", got)
	}
	x.goesTo(api.ErrArg, 0)
	x.goesTo(api.OK, d+11)
	if got := x.a.Now("ann"); got != (api.Ages{60, 50}) {
		t.Errorf("Now(ann): %v", got)
	}
	x.goesTo(api.ErrEarly, d+10)
	x.invoices(api.OK, inv("i0", "ann", d+1, d+1, 3))
	if got := x.a.Now("ann"); got != (api.Ages{60, 53}) {
		t.Errorf("Now(ann): %v", got)
	}
	alike(t, x.a, x.m)
	// 6
	if a, e := From(x.a.Claims(), x.a.Allots(), 0); a != nil || e != api.ErrView {
		t.Errorf("From at 0: %d", e)
	}
	if a, e := From(nil, []api.Allot{alt("p", "i", d, 1)}, d); a != nil || e != api.ErrView {
		t.Errorf("From of an allotment to none: %d", e)
	}
	if a, e := From(nil, nil, api.MaxDay); e != api.OK || a.AsOf() != api.MaxDay {
		t.Errorf("From of none at the last day: %d", e)
	}
}
