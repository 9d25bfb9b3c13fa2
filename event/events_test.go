package event

import (
	"math/rand/v2"
	"slices"
	"strings"

	"daybook/api"
)

const (
	longPart    = "Abcdefghijklm-9Z"
	longAccount = longPart + ":" + longPart + ":" + longPart + ":" + longPart + ":" + longPart + ":" + longPart
	longKey     = "Key-with_24.bytes-9876ab"
	longTag     = "tag-of-16-bytes9"
	leastInt    = -1 << 63
)

// longMemo has each of the bytes that a memo may have and that are no letters, and MaxMemo bytes.
func longMemo() string {
	return ` !#$%&'()*+,-./0123456789:;<=>?@[\]^_{|}~` + "`" + strings.Repeat("m", 38)
}

// ordinary: valid events of each kind.
func ordinary() []api.Event {
	return []api.Event{
		{Kind: api.KOpen, Day: 738886, Account: "Assets", Type: api.Asset},
		{Kind: api.KOpen, Day: 738886, Account: "Debts", Type: api.Liability},
		{Kind: api.KOpen, Day: 738886, Account: "Own", Type: api.Equity},
		{Kind: api.KOpen, Day: 738886, Account: "Income", Type: api.Income},
		{Kind: api.KOpen, Day: 738886, Account: "Costs", Type: api.Expense},
		{Kind: api.KOpen, Day: 738887, Account: "Assets:Bank"},
		{Kind: api.KClose, Day: 738946, Account: "Assets:Bank"},
		{Kind: api.KClose, Day: 738946, Account: "Assets"},
		{Kind: api.KPost, Day: 738917, Key: "x1", Memo: "rent", Lines: []api.Line{{Account: "Assets:Bank", Amount: -500, Tag: "flat"}, {Account: "Costs", Amount: 501}}},
		{Kind: api.KPost, Day: 738917, Key: "x2", Lines: []api.Line{{Account: "A", Amount: 1}, {Account: "A", Amount: -3}, {Account: "A", Amount: 2, Tag: "t"}}},
		{Kind: api.KVoid, Day: 738918, Key: "v1", Ref: "x1", Memo: "by mistake"},
		{Kind: api.KVoid, Day: 738918, Key: "v2", Ref: "v2"},
		{Kind: api.KInvoice, Day: 738895, Key: "i1", Account: "Assets:Cust:Ann", Other: "Income:Work", Due: 738925, Amount: 10000, Memo: "a, b"},
		{Kind: api.KInvoice, Day: 738895, Key: "i2", Account: "Assets", Other: "Income", Due: 738895, Amount: 1},
		{Kind: api.KPay, Day: 738936, Key: "p1", Account: "Assets:Cust:Ann", Other: "Assets:Bank", Amount: 6000, Memo: "cash"},
		{Kind: api.KPay, Day: 738936, Key: "p2", Account: "Assets:Bank", Other: "Assets", Amount: 6000},
		{Kind: api.KAllot, Day: 738936, Key: "a1", Ref: "p1", Ref2: "i1", Amount: 6000},
		{Kind: api.KAllot, Day: 738936, Key: "a", Ref: "a", Ref2: "a", Amount: 1},
		{Kind: api.KLock, Day: 738916},
	}
}

// corners: valid events at the edges that the document names: each kind's least, and its greatest.
func corners() []api.Event {
	most := int64(api.MaxAmount)
	line := api.Line{Account: longAccount, Amount: -most, Tag: longTag}
	return []api.Event{
		{Kind: api.KLock, Day: api.MinDay},
		{Kind: api.KLock, Day: api.MaxDay},
		{Kind: api.KOpen, Day: api.MinDay, Account: "A", Type: api.Expense},
		{Kind: api.KOpen, Day: api.MaxDay, Account: longPart, Type: api.Asset},
		{Kind: api.KOpen, Day: api.MaxDay, Account: longAccount},
		{Kind: api.KClose, Day: api.MaxDay, Account: longAccount},
		{Kind: api.KPost, Day: api.MinDay, Key: "k", Lines: []api.Line{{Account: "A", Amount: 1}, {Account: "A", Amount: -1}}},
		{Kind: api.KPost, Day: api.MaxDay, Key: longKey, Memo: longMemo(), Lines: slices.Repeat([]api.Line{line}, api.MaxLines)},
		{Kind: api.KPost, Day: 127, Key: ".", Memo: "\\", Lines: []api.Line{{Account: "B-", Amount: most, Tag: "z"}, {Account: "Z9", Amount: -most, Tag: "a-"}}},
		{Kind: api.KVoid, Day: api.MaxDay, Key: longKey, Ref: longKey, Memo: longMemo()},
		{Kind: api.KVoid, Day: 128, Key: "-", Ref: "_", Memo: "#"},
		{Kind: api.KInvoice, Day: api.MaxDay, Key: longKey, Account: longAccount, Other: longAccount[:100], Due: api.MaxDay, Amount: most, Memo: longMemo()},
		{Kind: api.KInvoice, Day: api.MinDay, Key: "9", Account: "A", Other: "A:A", Due: api.MaxDay, Amount: 1, Memo: " "},
		{Kind: api.KPay, Day: api.MaxDay, Key: longKey, Account: longAccount, Other: longAccount[:100], Amount: most, Memo: longMemo()},
		{Kind: api.KPay, Day: 16384, Key: "due", Account: "A:B", Other: "A", Amount: 64, Memo: "~"},
		{Kind: api.KAllot, Day: api.MaxDay, Key: longKey, Ref: longKey, Ref2: longKey, Amount: most},
		{Kind: api.KAllot, Day: 16383, Key: "asset", Ref: "lock", Ref2: "1.00", Amount: 63},
	}
}

// pick is one of some.
func pick[T any](r *rand.Rand, from ...T) T { return from[r.IntN(len(from))] }

// anyText is a text of 0 to most bytes of some.
func anyText(r *rand.Rand, of string, most int) string {
	b := make([]byte, r.IntN(most+1))
	for i := range b {
		b[i] = of[r.IntN(len(of))]
	}
	return string(b)
}

const (
	uppers = "ABCDEFGHIJKLMNOPQRSTUVWXYZ"
	lowers = "abcdefghijklmnopqrstuvwxyz"
	digit  = "0123456789"
)

func anyAccount(r *rand.Rand) string {
	var l []string
	for range 1 + r.IntN(api.MaxDepth) {
		l = append(l, uppers[r.IntN(26):][:1]+anyText(r, uppers+lowers+digit+"-", api.MaxPart-1))
	}
	return strings.Join(l, ":")
}

func anyKey(r *rand.Rand) string { return anyText(r, uppers+lowers+digit+"-_.", api.MaxKey-1) + "k" }

func anyMemo(r *rand.Rand) string {
	return pick(r, "", anyText(r, longMemo(), 8), anyText(r, longMemo(), api.MaxMemo))
}

func anyTag(r *rand.Rand) string {
	return pick(r, "", lowers[r.IntN(26):][:1]+anyText(r, lowers+digit+"-", api.MaxTag-1))
}

// anySize is from 1 to MaxAmount, as often a short one as a long one.
func anySize(r *rand.Rand) int64 { return max(1, r.Int64()>>r.IntN(63)) }

func anyDay(r *rand.Rand, from int) int { return from + r.IntN(api.MaxDay-from+1) }

// anyEvent is a valid one of any kind.
func anyEvent(r *rand.Rand) api.Event {
	e := api.Event{Kind: 1 + r.IntN(8), Day: anyDay(r, 1)}
	e.Account, e.Other = anyAccount(r), anyAccount(r)
	for e.Other == e.Account {
		e.Other = anyAccount(r)
	}
	if !strings.Contains(e.Account, ":") {
		e.Type = 1 + r.IntN(5)
	}
	e.Key, e.Ref, e.Ref2 = anyKey(r), anyKey(r), anyKey(r)
	e.Due, e.Amount, e.Memo = anyDay(r, e.Day), anySize(r), anyMemo(r)
	for range 2 + r.IntN(api.MaxLines-1) {
		e.Lines = append(e.Lines, api.Line{Account: anyAccount(r), Amount: pick[int64](r, 1, -1) * anySize(r), Tag: anyTag(r)})
	}
	for _, name := range []string{"Key", "Account", "Other", "Ref", "Ref2", "Type", "Due", "Amount", "Memo", "Lines"} {
		if !slices.Contains(fieldsOf(e.Kind), name) {
			field(&e, name).SetZero()
		}
	}
	return e
}

// someEvents: the ordinary ones, the corners, and n others.
func someEvents(r *rand.Rand, n int) []api.Event {
	l := slices.Concat(ordinary(), corners())
	for range n {
		l = append(l, anyEvent(r))
	}
	return l
}
