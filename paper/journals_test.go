package paper

import (
	"math/rand/v2"
	"slices"
	"strings"
	"testing"

	"daybook/api"
	"daybook/event"
	"daybook/money"
)

const (
	longPart    = "Abcdefghijklm-9Z"
	longAccount = longPart + ":" + longPart + ":" + longPart + ":" + longPart + ":" + longPart + ":" + longPart
	longKey     = "Key-with_24.bytes-9876ab"
	longTag     = "tag-of-16-bytes9"
	uppers      = "ABCDEFGHIJKLMNOPQRSTUVWXYZ"
	lowers      = "abcdefghijklmnopqrstuvwxyz"
	figures     = "0123456789"
	signs       = " !#$%&'()*+,-./:;<=>?@[\\]^_`{|}~" // of a memo
)

// kinds: an ordinary event of each kind, and each kind's greatest.
func kinds() []api.Event {
	most := int64(api.MaxAmount)
	longMemo := (signs + uppers + lowers)[:api.MaxMemo]
	return []api.Event{
		{Kind: api.KOpen, Day: 738886, Account: "Assets", Type: api.Asset},
		{Kind: api.KOpen, Day: 738886, Account: "Assets:Bank"},
		{Kind: api.KClose, Day: 738946, Account: "Assets:Bank"},
		{Kind: api.KPost, Day: 738917, Key: "x1", Memo: "rent", Lines: []api.Line{{Account: "Assets:Bank", Amount: -500, Tag: "flat"}, {Account: "Assets:Cust:Ann", Amount: 500}}},
		{Kind: api.KPost, Day: 738917, Key: "x2", Lines: []api.Line{{Account: "A", Amount: 1}, {Account: "A", Amount: -3}, {Account: "A", Amount: 2, Tag: "t"}}},
		{Kind: api.KVoid, Day: 738918, Key: "v1", Ref: "x1", Memo: "by mistake"},
		{Kind: api.KInvoice, Day: 738895, Key: "i1", Account: "Assets:Cust:Ann", Other: "Income:Work", Due: 738925, Amount: 10000, Memo: "a, b"},
		{Kind: api.KPay, Day: 738936, Key: "p1", Account: "Assets:Cust:Ann", Other: "Assets:Bank", Amount: 6000, Memo: "cash"},
		{Kind: api.KAllot, Day: 738936, Key: "a1", Ref: "p1", Ref2: "i1", Amount: 6000},
		{Kind: api.KLock, Day: 738916},
		{Kind: api.KOpen, Day: api.MaxDay, Account: longAccount},
		{Kind: api.KPost, Day: api.MaxDay, Key: longKey, Memo: longMemo, Lines: slices.Repeat([]api.Line{{Account: longAccount, Amount: -most, Tag: longTag}, {Account: "A", Amount: 1}}, api.MaxLines/2)},
		{Kind: api.KVoid, Day: api.MaxDay, Key: longKey, Ref: longKey, Memo: longMemo},
		{Kind: api.KInvoice, Day: api.MaxDay, Key: longKey, Account: longAccount, Other: "B", Due: api.MaxDay, Amount: most, Memo: longMemo},
		{Kind: api.KPay, Day: api.MaxDay, Key: longKey, Account: longAccount, Other: "B", Amount: most, Memo: longMemo},
		{Kind: api.KAllot, Day: api.MaxDay, Key: longKey, Ref: longKey, Ref2: longKey, Amount: most},
		{Kind: api.KLock, Day: api.MinDay},
	}
}

// lines: the events' lines, as event prints them: each posting on one line.
func lines(l []api.Event, digits int) (texts []string) {
	for _, e := range l {
		text, _ := event.Print(e, digits)
		texts = append(texts, text)
	}
	return texts
}

// anyText is a text of 0 to most bytes of some.
func anyText(r *rand.Rand, of string, most int) string {
	b := make([]byte, r.IntN(most+1))
	for i := range b {
		b[i] = of[r.IntN(len(of))]
	}
	return string(b)
}

func anyAccount(r *rand.Rand) string {
	var l []string
	for range 1 + r.IntN(api.MaxDepth) {
		l = append(l, uppers[r.IntN(26):][:1]+anyText(r, uppers+lowers+figures+"-", pick(r, 2, 5, api.MaxPart-1)))
	}
	return strings.Join(l, ":")
}

func anyKey(r *rand.Rand) string {
	return anyText(r, uppers+lowers+figures+"-_.", pick(r, 2, api.MaxKey-1)) + "k"
}

func anyMemo(r *rand.Rand) string {
	return pick(r, "", anyText(r, signs, 8), anyText(r, signs+uppers+lowers+figures, api.MaxMemo))
}

func anyTag(r *rand.Rand) string {
	return pick(r, "", lowers[r.IntN(26):][:1]+anyText(r, lowers+figures+"-", api.MaxTag-1))
}

// anySize is from 1 to MaxAmount, as often a short one as a long one.
func anySize(r *rand.Rand) int64 { return max(1, r.Int64()>>r.IntN(63)) }

func anyDay(r *rand.Rand, from int) int { return from + r.IntN(api.MaxDay-from+1) }

func anyPost(r *rand.Rand) api.Event {
	e := api.Event{Kind: api.KPost, Day: anyDay(r, 1), Key: anyKey(r), Memo: anyMemo(r)}
	for range pick(r, 2, 2, 3, 2+r.IntN(api.MaxLines-1)) {
		e.Lines = append(e.Lines, api.Line{Account: anyAccount(r), Amount: pick[int64](r, 1, -1) * anySize(r), Tag: anyTag(r)})
	}
	return e
}

// anyEvent is a valid one of any kind, half of them postings.
func anyEvent(r *rand.Rand) api.Event {
	on, account, other := anyDay(r, 1), anyAccount(r), anyAccount(r)+"x"
	switch kind := 1 + r.IntN(12); kind {
	case api.KOpen:
		e := api.Event{Kind: kind, Day: on, Account: account}
		if !strings.Contains(account, ":") {
			e.Type = 1 + r.IntN(5)
		}
		return e
	case api.KClose:
		return api.Event{Kind: kind, Day: on, Account: account}
	case api.KVoid:
		return api.Event{Kind: kind, Day: on, Key: anyKey(r), Ref: anyKey(r), Memo: anyMemo(r)}
	case api.KInvoice:
		return api.Event{Kind: kind, Day: on, Key: anyKey(r), Account: account, Other: "Z" + other[1:min(len(other), 15)], Due: anyDay(r, on), Amount: anySize(r), Memo: anyMemo(r)}
	case api.KPay:
		return api.Event{Kind: kind, Day: on, Key: anyKey(r), Account: "A" + account, Other: "B", Amount: anySize(r), Memo: anyMemo(r)}
	case api.KAllot:
		return api.Event{Kind: kind, Day: on, Key: anyKey(r), Ref: anyKey(r), Ref2: anyKey(r), Amount: anySize(r)}
	case api.KLock:
		return api.Event{Kind: kind, Day: on}
	}
	return anyPost(r)
}

// anyEvents: up to most valid ones.
func anyEvents(r *rand.Rand, most int) (l []api.Event) {
	for n := r.IntN(most + 1); len(l) < n; {
		if e := anyEvent(r); event.Check(e) == api.OK {
			l = append(l, e)
		}
	}
	return l
}

func anyBlanks(r *rand.Rand) string { return pick(r, " ", "\t", "  ", " \t ") }

func anyEnd(r *rand.Rand) string { return pick(r, "", "", "", anyBlanks(r)) }

func anyRemark(r *rand.Rand) string {
	return pick(r, "", anyBlanks(r)) + pick(r, ";", "; my books", ";; post 2024-02-01 x", ";\r\x00\xff\"", ";\tA 5")
}

// put: a line put in at a place.
func put(l []string, at int, line string) []string { return slices.Insert(slices.Clone(l), at, line) }

// anyLeg: the leg of a line, with or without its amount.
func anyLeg(r *rand.Rand, l api.Line, digits int, open bool) string {
	s := anyBlanks(r) + l.Account
	if !open {
		amount, _ := money.Print(l.Amount, digits)
		s += anyBlanks(r) + amount
	}
	if l.Tag != "" {
		s += anyBlanks(r) + "#" + l.Tag
	}
	return s + anyEnd(r)
}

// anyLegs: the legs of a posting, the one at a place open, with remarks between them.
func anyLegs(r *rand.Rand, l []api.Line, digits, open int) (texts []string) {
	for i, line := range l {
		for r.IntN(6) == 0 {
			texts = append(texts, anyRemark(r))
		}
		texts = append(texts, anyLeg(r, line, digits, i == open))
	}
	return texts
}

// anyHead: the head of a posting.
func anyHead(r *rand.Rand, e api.Event) string {
	head, _, _ := strings.Cut(plainPrint([]api.Event{e}, 0), "\n")
	if e.Memo == "" {
		head += pick(r, "", `""`, ` ""`)
	}
	return strings.Replace(head, " ", anyBlanks(r), 2) + anyEnd(r)
}

// balanced: the posting with the one line's amount at a place for which all add up to 0; false, if there is none.
func balanced(e api.Event, at int) (api.Event, bool) {
	e.Lines = slices.Clone(e.Lines)
	e.Lines[at].Amount = 0
	var l []int64
	for _, line := range e.Lines {
		l = append(l, line.Amount)
	}
	sum, why := money.Sum(l)
	e.Lines[at].Amount = -sum
	return e, why == api.OK && sum != 0
}

// anyJournal: the lines of a text that is taken, and its events.
func anyJournal(r *rand.Rand, digits, most int) (texts []string, events []api.Event) {
	for _, e := range anyEvents(r, most) {
		for r.IntN(3) == 0 {
			texts = append(texts, pick(r, "", anyBlanks(r), anyRemark(r)))
		}
		if e.Kind != api.KPost || r.IntN(5) == 0 {
			texts = append(texts, lines([]api.Event{e}, digits)[0]+anyEnd(r))
			events = append(events, e)
			continue
		}
		open := r.IntN(2*len(e.Lines)) - len(e.Lines)
		if open >= 0 {
			if even, is := balanced(e, open); is {
				e = even
			} else {
				open = -1
			}
		}
		texts = append(texts, anyHead(r, e))
		texts = append(texts, anyLegs(r, e.Lines, digits, open)...)
		events = append(events, e)
	}
	for r.IntN(3) == 0 {
		texts = append(texts, pick(r, "", anyRemark(r)))
	}
	return texts, events
}

// spoilt: lines that were changed somewhere, so that they are perhaps no journal's.
func spoilt(r *rand.Rand, texts []string) []string {
	texts = slices.Clone(texts)
	if len(texts) == 0 {
		return []string{anyText(r, " ;A\"\r", 3)}
	}
	at := r.IntN(len(texts))
	switch line := texts[at]; r.IntN(6) {
	case 0:
		return slices.Delete(texts, at, at+1)
	case 1:
		return put(texts, at, pick(r, " A 5", " A", "\tB -5 #t", "x", "", "post 2024-02-01 x", ` A "m"`, " A 5, B -5"))
	case 2:
		other := r.IntN(len(texts))
		texts[at], texts[other] = texts[other], line
	case 3:
		texts[at] = line + anyText(r, " ,\"#5A\r;", 2)
	case 4:
		texts[at] = strings.Replace(line, pick(r, " ", "\t", "-", "#", "\"", "0", "A"), pick(r, "", " ", "\"", ",", "\r"), 1)
	case 5:
		from := r.IntN(len(line) + 1)
		texts[at] = line[:from] + line[min(len(line), from+1+r.IntN(3)):]
	}
	return texts
}

// walk goes through journals, every second one of them spoilt.
func walk(t *testing.T, n uint64, times, most int, do func(r *rand.Rand, lines []string, digits int)) {
	t.Helper()
	r := source(n)
	for i := range times {
		digits := r.IntN(api.MaxDigits + 1)
		l, events := anyJournal(r, digits, most)
		reads(t, joined(l...), digits, events...)
		if i%2 == 1 {
			l = spoilt(r, l)
		}
		do(r, l, digits)
	}
}
