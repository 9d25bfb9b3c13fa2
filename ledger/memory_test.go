package ledger

import (
	"fmt"
	"reflect"
	"slices"
	"testing"

	"daybook/api"
)

// scratch writes over every list that can be reached, its spare room too.
func scratch(v reflect.Value) {
	switch v.Kind() {
	case reflect.Struct:
		for i := range v.NumField() {
			scratch(v.Field(i))
		}
	case reflect.Slice:
		v = v.Slice(0, v.Cap())
		for i := range v.Len() {
			scratch(v.Index(i))
			v.Index(i).SetZero()
		}
	}
}

// nobodys: what a call answers is new memory each time: writing over one answer changes neither the next one nor anything else.
func nobodys[T any](t *testing.T, what string, l *Ledger, model *plain, ask func() T) {
	t.Helper()
	one, two := ask(), ask()
	was := fmt.Sprintf("%+v", two)
	scratch(reflect.ValueOf(&one).Elem())
	same(t, what+" beside one that was written over", fmt.Sprintf("%+v", two), was)
	same(t, what+" again", fmt.Sprintf("%+v", ask()), was)
	alike(t, what, l, model)
}

// TestMemoryAnswers: what is handed out is nobody else's.
func TestMemoryAnswers(t *testing.T) {
	l, _ := kept(t, 200, story())
	model := behind(t, story())
	nobodys(t, "Trial", l, model, func() []api.Column { r, _ := l.Trial(); return r })
	nobodys(t, "Accounts", l, model, func() []api.Account { r, _ := l.Accounts(); return r })
	nobodys(t, "Event", l, model, func() api.Event { r, _ := l.Event(18); return r })
	for _, name := range []string{bank, ann, "Costs"} {
		nobodys(t, "Daily", l, model, func() []api.DayRow { r, _ := l.Daily(name, 1, api.MaxDay); return r })
		nobodys(t, "Open", l, model, func() []api.Claim { r, _ := l.Open(name, d+60); return r })
	}
	for _, q := range questions() {
		nobodys(t, q, l, model, func() api.Table { r, _, _ := l.Query(q); return r })
		// Within one answer: each row is a list of its own.
		whole, _, _ := l.Query(q)
		was := fmt.Sprint(whole)
		for i := range whole.Rows {
			r, _, _ := l.Query(q)
			scratch(reflect.ValueOf(&r.Rows[i]).Elem())
			r.Rows[i] = whole.Rows[i]
			same(t, q, fmt.Sprint(r), was)
		}
		r, _, _ := l.Query(q)
		scratch(reflect.ValueOf(&r.Types).Elem())
		same(t, q, fmt.Sprint(r.Rows), fmt.Sprint(whole.Rows))
	}
	// What was handed out is not changed by what comes later.
	trial, _ := l.Trial()
	accounts, _ := l.Accounts()
	rows, _ := l.Daily(bank, 1, api.MaxDay)
	open, _ := l.Open(ann, d+60)
	table, _, _ := l.Query("by account show sum(amount), count")
	was := fmt.Sprint(trial, accounts, rows, open, table)
	takes(t, l, later())
	l.Rebuild(greatest)
	l.Rebuild(1)
	same(t, "what was told ahead", fmt.Sprint(trial, accounts, rows, open, table), was)
}

// TestMemoryArguments: what is handed in is neither changed nor kept.
func TestMemoryArguments(t *testing.T) {
	l, x := kept(t, 200, story())
	lines := slices.Grow([]api.Line{line(bank, 5), line(ann, -5)}, 9)
	was := slices.Clone(lines)
	takes(t, l, []api.Event{post(d+81, "n", lines...)})
	room := lines[:cap(lines)]
	if !slices.Equal(lines, was) || slices.ContainsFunc(room[2:], func(l api.Line) bool { return l != api.Line{} }) {
		t.Error("the lines were changed")
	}
	model := behind(t, append(story(), post(d+81, "n", was...)))
	scratch(reflect.ValueOf(&lines).Elem())
	alike(t, "behind it", l, model)
	takes(t, l, []api.Event{void(d+81, "v", "n")})
	alike(t, "voided", l, model.with(t, void(d+81, "v", "n")))

	// One that is refused.
	lines = slices.Grow([]api.Line{line(bank, 5), line(ann, -4)}, 9)
	was = slices.Clone(lines)
	_, why := l.Submit(post(d+81, "m", lines...))
	want(t, "Submit", why, api.ErrBalance)
	if !slices.Equal(lines, was) {
		t.Error("the lines were changed")
	}
	alike(t, "opened anew", on(t, x, 200), model.with(t, void(d+81, "v", "n")))
}

// TestMemoryTwo: two ledgers know nothing of one another.
func TestMemoryTwo(t *testing.T) {
	one, x := kept(t, 200, story())
	two := on(t, copied(t, x), 200)
	takes(t, one, later())
	one.Rebuild(5)
	alike(t, "the second", two, behind(t, story()))
	has(t, two, api.Progress{Of: 27}, false)
	failPower(t, x)
	one.Event(1)
	isDown(t, one, x)
	takes(t, two, later()[:3])
	alike(t, "the second", two, behind(t, append(story(), later()[:3]...)))
}
