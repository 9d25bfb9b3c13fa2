package event

import (
	"math"
	"reflect"
	"slices"
	"strings"
	"testing"

	"daybook/api"
)

func TestP5_1Takes(t *testing.T) {
	for _, e := range someEvents(source(1), 2000) {
		if why := Check(e); why != api.OK || !plainCheck(e) {
			t.Fatalf("Check(%+v): error %d", e, int(why))
		}
	}
}

// The corners are where the document says that the edges are.
func TestP5_1CornersReachTheLimits(t *testing.T) {
	for what, n := range map[string][2]int{
		"account": {len(longAccount), 101}, "part": {len(longPart), api.MaxPart}, "parts": {strings.Count(longAccount, ":") + 1, api.MaxDepth},
		"key": {len(longKey), api.MaxKey}, "memo": {len(longMemo()), api.MaxMemo}, "tag": {len(longTag), api.MaxTag},
	} {
		if n[0] != n[1] {
			t.Errorf("the longest %s has %d", what, n[0])
		}
	}
}

func TestP5_1Kinds(t *testing.T) {
	for _, kind := range []int{0, -1, 9, 10, 256 + 8, math.MinInt, math.MaxInt} {
		for _, e := range someEvents(source(2), 0) {
			e.Kind = kind
			wantInvalid(t, e)
		}
		wantInvalid(t, api.Event{Kind: kind})
	}
	wantInvalid(t, api.Event{})
	for kind := range kindRows {
		wantInvalid(t, api.Event{Kind: kind})
	}
}

// values: what each field is set to in turn: good ones, ones at their bounds, ones beyond.
func values() map[string][]any {
	long := func(n int) string { return strings.Repeat("a", n) }
	accounts := []any{"A", "B:C", longPart, longAccount, "", "a", "9", "-A", ":", "A:", ":A", "A::B", "A:b", "A B", "A_", "A\n", "A:B:C:D:E:F", "A:B:C:D:E:F:G", longPart + "x", longAccount + "x", longAccount + ":A", "Ä"}
	keys := []any{"k", "K-_.9", longKey, "", longKey + "k", long(300), "a b", "a:b", "a\n", "a,", `a"`, "#a", "ä", "\x00"}
	days := []any{1, 2, 738886, api.MaxDay, 0, -1, api.MaxDay + 1, math.MinInt, math.MaxInt, 1 << 32, 1<<32 + 1}
	return map[string][]any{
		"Kind": {0, 1, 2, 3, 4, 5, 6, 7, 8, 9, -1, 257, math.MinInt, math.MaxInt},
		"Day":  days, "Due": days,
		"Account": accounts, "Other": accounts,
		"Key": keys, "Ref": keys, "Ref2": keys,
		"Type":   {0, 1, 2, 3, 4, 5, 6, -1, 256, 257, math.MinInt, math.MaxInt},
		"Amount": {int64(1), int64(api.MaxAmount), int64(0), int64(-1), int64(-api.MaxAmount), int64(leastInt)},
		"Memo":   {"m", " ", "~", longMemo(), "", longMemo() + "m", long(3000), `"`, `a"b`, "\x1f", "\x7f", "a\tb", "a\nb", "ä", "\xff"},
		"Lines":  lineLists(),
	}
}

// lineLists: lists of Lines of all lengths around the bounds, and good ones with one line that is changed.
func lineLists() (l []any) {
	good := api.Line{Account: "A", Amount: 1}
	for n := range api.MaxLines + 3 {
		l = append(l, slices.Repeat([]api.Line{good}, n))
	}
	l = append(l, make([]api.Line, 1), make([]api.Line, 2), slices.Repeat([]api.Line{good}, 256+2))
	changed := []api.Line{
		{Account: longAccount, Amount: api.MaxAmount, Tag: longTag}, {Account: "A", Amount: -api.MaxAmount}, {Account: "A", Amount: 1, Tag: "z9-"},
		{Account: "", Amount: 1}, {Account: "a", Amount: 1}, {Account: "A:", Amount: 1}, {Account: longAccount + "x", Amount: 1}, {Account: "A:B:C:D:E:F:G", Amount: 1},
		{Account: "A", Amount: 0}, {Account: "A", Amount: leastInt},
		{Account: "A", Amount: 1, Tag: "T"}, {Account: "A", Amount: 1, Tag: "9"}, {Account: "A", Amount: 1, Tag: "-"}, {Account: "A", Amount: 1, Tag: "#a"}, {Account: "A", Amount: 1, Tag: "a b"}, {Account: "A", Amount: 1, Tag: "aB"}, {Account: "A", Amount: 1, Tag: "a_"}, {Account: "A", Amount: 1, Tag: longTag + "t"}, {Account: "A", Amount: 1, Tag: "\n"},
	}
	for _, line := range changed {
		l = append(l, []api.Line{line, good}, []api.Line{good, line}, append(slices.Repeat([]api.Line{good}, api.MaxLines-1), line))
	}
	return l
}

// TestP5_1EachField: each field of each kind, its own or not, with each value.
func TestP5_1EachField(t *testing.T) {
	for _, good := range someEvents(source(3), 0) {
		for name, l := range values() {
			for _, v := range l {
				e := good
				field(&e, name).Set(reflect.ValueOf(v))
				if plainCheck(e) {
					if why := Check(e); why != api.OK {
						t.Fatalf("Check(%+v): error %d", e, int(why))
					}
					continue
				}
				wantInvalid(t, e)
			}
		}
	}
}

// TestP5_1FieldsOfOthers: what a kind does not have must be zero, however good it is.
func TestP5_1FieldsOfOthers(t *testing.T) {
	seen := 0
	for _, good := range someEvents(source(4), 0) {
		for name, l := range values() {
			if slices.Contains(fieldsOf(good.Kind), name) {
				continue
			}
			for _, v := range l {
				e := good
				f := field(&e, name)
				f.Set(reflect.ValueOf(v))
				if f.IsZero() || name == "Lines" && f.Len() == 0 {
					continue
				}
				seen++
				wantInvalid(t, e)
			}
		}
	}
	if seen < 1000 {
		t.Errorf("%d fields", seen)
	}
}

func TestP5_1EmptyLinesAreNone(t *testing.T) {
	for _, e := range someEvents(source(5), 0) {
		if e.Kind != api.KPost {
			e.Lines = make([]api.Line, 0, 3)
			if why := Check(e); why != api.OK {
				t.Errorf("Check(%+v): error %d", e, int(why))
			}
		}
	}
}

func TestP5_1Together(t *testing.T) {
	for typ := range 6 {
		root := api.Event{Kind: api.KOpen, Day: 1, Account: "A", Type: typ}
		below := api.Event{Kind: api.KOpen, Day: 1, Account: "A:B", Type: typ}
		if (Check(root) == api.OK) != (typ != 0) || (Check(below) == api.OK) != (typ == 0) {
			t.Errorf("type %d: a root %d, one below %d", typ, int(Check(root)), int(Check(below)))
		}
	}
	invoice := api.Event{Kind: api.KInvoice, Day: 100, Key: "k", Account: "A", Other: "B", Due: 100, Amount: 1}
	for due, want := range map[int]api.Errno{99: api.ErrEvent, 100: api.OK, 101: api.OK, api.MaxDay: api.OK, api.MaxDay + 1: api.ErrEvent, 0: api.ErrEvent} {
		invoice.Due = due
		if why := Check(invoice); why != want {
			t.Errorf("due %d: error %d", due, int(why))
		}
	}
	for _, kind := range []int{api.KInvoice, api.KPay} {
		e := api.Event{Kind: kind, Day: 1, Key: "k", Account: "A:B", Other: "A:B", Amount: 1}
		if kind == api.KInvoice {
			e.Due = 1
		}
		wantInvalid(t, e)
		e.Other = "A:C"
		if why := Check(e); why != api.OK {
			t.Errorf("kind %d: error %d", kind, int(why))
		}
	}
}

// TestP5_1ManyFieldsAtOnce: any values in any fields.
func TestP5_1ManyFieldsAtOnce(t *testing.T) {
	r := source(6)
	all := values()
	fields := []string{"Kind", "Day", "Key", "Account", "Other", "Ref", "Ref2", "Type", "Due", "Amount", "Memo", "Lines"}
	taken := 0
	for range 20000 {
		e := anyEvent(r)
		for range r.IntN(3) {
			name := pick(r, fields...)
			field(&e, name).Set(reflect.ValueOf(pick(r, all[name]...)))
		}
		good := plainCheck(e)
		if good {
			taken++
		}
		if (Check(e) == api.OK) != good {
			t.Fatalf("Check(%+v): error %d", e, int(Check(e)))
		}
	}
	if taken < 3000 || taken > 17000 {
		t.Errorf("%d are valid", taken)
	}
}
