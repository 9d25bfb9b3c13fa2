package ledger

import (
	"fmt"
	"strings"
	"testing"

	"daybook/api"
	"daybook/grammar"
	"daybook/typing"
)

// TestP18_5Days: days that are none go ahead of an account that is none; from and to in each order.
func TestP18_5Days(t *testing.T) {
	l, _ := kept(t, 4096, story())
	model := behind(t, story())
	names := []string{bank, ann, "Assets", "Gone", "Old", "Costs", "No", "", "assets", "Assets:", "Assets:Bank:X"}
	days := []int{least, -1, 0, 1, d, d + 20, d + 60, api.MaxDay, api.MaxDay + 1, greatest}
	counted := map[api.Errno]int{}
	for _, name := range names {
		for _, from := range days {
			for _, to := range days {
				got, why := l.Daily(name, from, to)
				wanted, reason := model.Daily(name, from, to)
				if fmt.Sprint(got, why) != fmt.Sprint(wanted, reason) {
					t.Errorf("Daily(%s, %d, %d): %v, %d, want %v, %d", name, from, to, got, int(why), wanted, int(reason))
				}
				counted[why]++
			}
			ages, why := l.Aged(name, from)
			wanted, reason := model.Aged(name, from)
			if ages != wanted || why != reason {
				t.Errorf("Aged(%s, %d): %v, %d, want %v, %d", name, from, ages, int(why), wanted, int(reason))
			}
			open, why := l.Open(name, from)
			claims, reason := model.Open(name, from)
			if fmt.Sprint(open) != fmt.Sprint(claims) || why != reason {
				t.Errorf("Open(%s, %d): %v, %d, want %v, %d", name, from, open, int(why), claims, int(reason))
			}
		}
	}
	if counted[api.OK] == 0 || counted[api.ErrArg] == 0 || counted[api.ErrUnknown] == 0 || len(counted) != 3 {
		t.Errorf("the answers: %v", counted)
	}
}

// TestP18_5Words: each error by hand.
func TestP18_5Words(t *testing.T) {
	l, _ := kept(t, 4096, story())
	for _, name := range []string{"No", "", "Assets:No", "assets", "Bank"} {
		b, why := l.Rollup(name)
		want(t, "Rollup "+name, why, api.ErrUnknown)
		same(t, "Rollup "+name, b, api.Balance{})
		rows, why := l.Daily(name, d, d)
		want(t, "Daily "+name, why, api.ErrUnknown)
		same(t, "Daily "+name, len(rows), 0)
		_, why = l.Daily(name, d, d-1)
		want(t, "Daily "+name, why, api.ErrArg)
		_, why = l.Daily(name, 0, d)
		want(t, "Daily "+name, why, api.ErrArg)
		_, why = l.Daily(name, d, api.MaxDay+1)
		want(t, "Daily "+name, why, api.ErrArg)
		ages, why := l.Aged(name, d)
		want(t, "Aged "+name, why, api.ErrUnknown)
		same(t, "Aged "+name, ages, api.Ages{})
		_, why = l.Aged(name, 0)
		want(t, "Aged "+name, why, api.ErrArg)
		claims, why := l.Open(name, d)
		want(t, "Open "+name, why, api.ErrUnknown)
		same(t, "Open "+name, len(claims), 0)
		_, why = l.Open(name, api.MaxDay+1)
		want(t, "Open "+name, why, api.ErrArg)
	}
	// A closed account is one that was opened.
	b, why := l.Rollup("Gone")
	want(t, "Rollup", why, api.OK)
	same(t, "Rollup", b, api.Balance{Account: "Gone"})
	rows, why := l.Daily("Gone", 1, api.MaxDay)
	want(t, "Daily", why, api.OK)
	same(t, "Daily", len(rows), 0)
	ages, why := l.Aged("Gone", d)
	want(t, "Aged", why, api.OK)
	same(t, "Aged", ages, api.Ages{})
	_, why = l.Open("Gone", d)
	want(t, "Open", why, api.OK)
	accounts, why := l.Accounts()
	want(t, "Accounts", why, api.OK)
	closed := 0
	for _, a := range accounts {
		if a.Closed {
			closed++
		}
	}
	same(t, "accounts", len(accounts), 9)
	same(t, "closed ones", closed, 2)
}

func TestP18_5Left(t *testing.T) {
	l, _ := kept(t, 4096, story())
	for key, left := range map[string]int64{"i1": 4500, "i2": 0, "i3": 1, "p1": 500, "p2": 0} {
		n, why := l.Left(key)
		want(t, "Left "+key, why, api.OK)
		same(t, "Left "+key, n, left)
	}
	for _, key := range []string{"", "x1", "v1", "a1", "i4", "I1", "i1 ", "no key at all", string(make([]byte, 100))} {
		n, why := l.Left(key)
		want(t, "Left "+key, why, api.ErrRef)
		same(t, "Left "+key, n, 0)
	}
	takes(t, l, later())
	n, why := l.Left("p1")
	want(t, "Left", why, api.OK)
	same(t, "Left", n, 500)
}

// TestP18_5Empty: a ledger without events.
func TestP18_5Empty(t *testing.T) {
	l, _ := kept(t, 4096, nil)
	alike(t, "without events", l, behind(t, nil))
	_, why := l.Rollup("Assets")
	want(t, "Rollup", why, api.ErrUnknown)
	_, why = l.Left("i1")
	want(t, "Left", why, api.ErrRef)
	trial, why := l.Trial()
	want(t, "Trial", why, api.OK)
	same(t, "Trial", len(trial), 0)
	s, why := l.Export()
	want(t, "Export", why, api.OK)
	same(t, "Export", s, "")
	table, at, why := l.Query("show count, sum(amount)")
	want(t, "Query", why, api.OK)
	same(t, "Query", fmt.Sprint(table, at), fmt.Sprint(api.Table{Types: []int{1, 5}, Rows: [][]api.Cell{{{Type: 1}, {Type: 5}}}}, 0))
}

func TestP18_6Faults(t *testing.T) {
	l, _ := kept(t, 4096, story())
	for s, c := range map[string]struct {
		at  int
		why api.Errno
	}{
		"":                       {0, api.ErrSyntax},
		"where":                  {5, api.ErrSyntax},
		"where not (a":           {11, api.ErrSyntax},
		"show count count":       {11, api.ErrSyntax},
		"show sum(amount":        {15, api.ErrSyntax},
		"SHOW count":             {0, api.ErrSyntax},
		"show count limit 1 ;":   {19, api.ErrSyntax},
		strings.Repeat(" ", 601): {600, api.ErrLong},
		"show sum(" + strings.Repeat("(", 16) + "amount" + strings.Repeat(")", 17): {24, api.ErrDeep},
		"where memo = ' show count":                         {13, api.ErrSyntax},
		"show sum(day)":                                     {0, api.ErrTyping},
		"show count order 2":                                {0, api.ErrTyping},
		"where amount show count":                           {0, api.ErrTyping},
		"where amount * 9223372036854775807 > 0 show count": {0, api.ErrOverflow},
		"show sum(seq * 9223372036854775807)":               {0, api.ErrOverflow},
		"where day + 3652058 > 0001-01-01 show count":       {0, api.ErrOverflow},
		"where amount * 9223372036854775807 > 0 and account under 5 show sum(amount)": {0, api.ErrTyping}, // ahead of ErrOverflow
		"show sum(day) limit": {19, api.ErrSyntax}, // ahead of ErrTyping
	} {
		table, at, why := l.Query(s)
		want(t, s, why, c.why)
		same(t, s, at, c.at)
		same(t, s, len(table.Types)+len(table.Rows), 0)
	}
}

// TestP18_6Ways: queries that are answered by each way, as the rows give it.
func TestP18_6Ways(t *testing.T) {
	l, _ := kept(t, 4096, story())
	model := behind(t, story())
	ways := map[int]int{}
	for _, s := range append(questions(),
		"where account = 'Gone' show sum(amount)", "where account under 'No' show sum(amount)", "where account = 'Assets:Bank' and day = 2024-01-31 show sum(amount) limit 0",
		"where account = 'Assets:Bank' and day > 2024-02-01 and day < 2024-01-01 show sum(amount)", "by day, account show sum(amount), min(key), max(memo) order 2 desc, 3, 1 limit 5",
		"where memo has 'ren' or not tag = '' by year, month show count, min(line), max(kind)", "show min(day), max(day)") {
		table, at, why := l.Query(s)
		wanted, place, reason := model.Query(s)
		if fmt.Sprint(table, at, why) != fmt.Sprint(wanted, place, reason) {
			t.Errorf("%s: %v, %d, %d, want %v, %d, %d", s, table, at, int(why), wanted, place, int(reason))
		}
		if q, _, why := grammar.Parse(s); why == api.OK && reason == api.OK {
			ways[typing.Plan(q)]++
		}
	}
	if ways[typing.ByScan] < 3 || ways[typing.BySums] < 3 || ways[typing.ByDaily] < 3 {
		t.Errorf("the ways: %v", ways)
	}
}
