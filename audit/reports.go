package audit

import (
	"cmp"
	"maps"
	"slices"
	"strconv"
	"strings"

	"daybook/api"
	"daybook/day"
	"daybook/money"
)

// An account stands open or closed.
const (
	openStand   = "open"
	closedStand = "closed"
)

// below stands between an account's name and the parts of those below it.
const below = ":"

const (
	ages    = 5
	ageDays = 30 // how many days the ages between the first and the last one have
)

// good is an answer that went well.
func good(words ...string) answer {
	return answer{words: append([]string{okWord}, words...)}
}

// listed is an answer of rows, and how many these are.
func listed(rows [][]string) answer {
	a := good(strconv.Itoa(len(rows)))
	for _, words := range rows {
		a.rows = append(a.rows, rowMark+strings.Join(words, blank))
	}
	return a
}

// amount is the text of an amount; of a sum that is none it is empty, which no answer tells.
func (b *books) amount(a wide) string {
	n, is := a.narrow()
	if !is {
		return ""
	}
	s, _ := money.Print(n, b.digits)
	return s
}

func dateOf(n int) string {
	s, _ := day.Print(n)
	return s
}

func (b *books) trial() answer {
	var rows [][]string
	for _, name := range slices.Sorted(maps.Keys(b.own)) {
		own, none := b.own[name], wide{}
		switch {
		case own.isAboveZero():
			rows = append(rows, []string{name, b.amount(own), b.amount(none)})
		case own.isBelowZero():
			rows = append(rows, []string{name, b.amount(none), b.amount(none.minus(own))})
		}
	}
	return listed(rows)
}

func (b *books) rollup(name string) answer {
	all := b.own[name]
	for other, own := range b.own {
		if strings.HasPrefix(other, name+below) {
			all = all.plus(own)
		}
	}
	return good(b.amount(b.own[name]), b.amount(all))
}

func (b *books) daily(name string, from, to int) answer {
	var rows [][]string
	var balance wide
	for _, n := range slices.Sorted(maps.Keys(b.days[name])) {
		change := b.days[name][n]
		balance = balance.plus(change)
		if n >= from && n <= to && change != (wide{}) {
			rows = append(rows, []string{dateOf(n), b.amount(change), b.amount(balance)})
		}
	}
	return listed(rows)
}

// invoice is one, with what is open of it.
type invoice struct {
	api.Event
	open wide
}

// invoices is those of an account up to a day, with what is open then.
func (b *books) invoices(name string, at int) []invoice {
	allotted := map[string]wide{}
	for _, e := range b.events {
		if e.Kind == api.KAllot && e.Day <= at {
			allotted[e.Ref2] = allotted[e.Ref2].plus(wideOf(e.Amount))
		}
	}
	var l []invoice
	for _, e := range b.events {
		if e.Kind == api.KInvoice && e.Account == name && e.Day <= at {
			l = append(l, invoice{e, wideOf(e.Amount).minus(allotted[e.Key])})
		}
	}
	return l
}

func (b *books) aged(name string, at int) answer {
	var sums [ages]wide
	for _, i := range b.invoices(name, at) {
		age := ageOf(at - i.Due)
		sums[age] = sums[age].plus(i.open)
	}
	var words []string
	for _, sum := range sums {
		words = append(words, b.amount(sum))
	}
	return good(words...)
}

// ageOf is which of the ages an invoice has that is so many days overdue.
func ageOf(late int) int {
	if late <= 0 {
		return 0
	}
	return min((late-1)/ageDays+1, ages-1)
}

func (b *books) open(name string, at int) answer {
	l := slices.DeleteFunc(b.invoices(name, at), func(i invoice) bool { return !i.open.isAboveZero() })
	slices.SortFunc(l, func(i, j invoice) int {
		return cmp.Or(cmp.Compare(i.Due, j.Due), cmp.Compare(i.Day, j.Day), cmp.Compare(i.Key, j.Key))
	})
	var rows [][]string
	for _, i := range l {
		rows = append(rows, []string{i.Key, dateOf(i.Day), dateOf(i.Due), b.amount(i.open)})
	}
	return listed(rows)
}

// left is what is left of an invoice or a payment; of another key the answer that none is.
func (b *books) left(key string) answer {
	n, is := b.keys[key]
	if !is || b.events[n-1].Kind != api.KInvoice && b.events[n-1].Kind != api.KPay {
		return answer{}
	}
	rest := wideOf(b.events[n-1].Amount)
	for _, e := range b.events {
		if e.Kind == api.KAllot && (e.Ref == key || e.Ref2 == key) {
			rest = rest.minus(wideOf(e.Amount))
		}
	}
	return good(b.amount(rest))
}

func (b *books) accounts() answer {
	opened, closings := map[string]api.Event{}, map[string]int{}
	for _, e := range b.events {
		if _, is := opened[e.Account]; e.Kind == api.KOpen && !is {
			opened[e.Account] = e
		}
		if e.Kind == api.KClose {
			closings[e.Account]++
		}
	}
	var rows [][]string
	for _, name := range slices.Sorted(maps.Keys(opened)) {
		root, _, _ := strings.Cut(name, below)
		stand := openStand
		if closings[name] > 0 {
			stand = closedStand
		}
		rows = append(rows, []string{name, strconv.Itoa(opened[root].Type), dateOf(opened[name].Day), stand})
	}
	return listed(rows)
}
