package event

import (
	"slices"
	"strings"

	"daybook/api"
	"daybook/day"
	"daybook/money"
)

// kindWords: each at its kind's number.
func kindWords() []string {
	return []string{
		api.KOpen: "open", api.KClose: "close", api.KPost: "post", api.KVoid: "void",
		api.KInvoice: "invoice", api.KPay: "pay", api.KAllot: "allot", api.KLock: "lock",
	}
}

// typeWords: each at its type's number.
func typeWords() []string {
	return []string{api.Asset: "asset", api.Liability: "liability", api.Equity: "equity", api.Income: "income", api.Expense: "expense"}
}

// dueWord stands ahead of an invoice's second day.
const dueWord = "due"

// The bytes that are no word's.
const (
	blanks = " \t"
	comma  = ","
	quote  = `"`
	noWord = blanks + comma + quote
)

// tagMark is the first byte of a tag's word.
const tagMark = "#"

// printed is a valid event's line.
func printed(e api.Event, digits int) string {
	p := &printer{[]string{kindWords()[e.Kind]}, digits}
	visit(narrow(e), p)
	return strings.Join(p.words, " ")
}

// parsed is the valid event whose line s is; it gives up, if it is none's.
func parsed(s string, digits int) api.Event {
	// A copy, so that an event's texts don't hold fast all that the line was cut from.
	p := &parser{strings.Clone(s), digits}
	e := filled(p.oneOf(kindWords()), p)
	must(p.atEnd())
	return e
}

// printer puts each field's word behind those ahead of it.
type printer struct {
	words  []string
	digits int
}

func (p *printer) put(word string) { p.words = append(p.words, word) }

func (p *printer) day(n *int) {
	text, _ := day.Print(*n)
	p.put(text)
}

func (p *printer) due(n *int) {
	p.put(dueWord)
	p.day(n)
}

func (p *printer) rootType(n *int) {
	if *n != 0 {
		p.put(typeWords()[*n])
	}
}

func (p *printer) account(s *string) { p.put(*s) }
func (p *printer) key(s *string)     { p.put(*s) }

func (p *printer) memo(s *string) {
	if *s != "" {
		p.put(quote + *s + quote)
	}
}

func (p *printer) amount(a *int64) {
	text, _ := money.Print(*a, p.digits)
	p.put(text)
}

func (p *printer) lines(l *[]api.Line) {
	for i, line := range *l {
		if i > 0 {
			p.words[len(p.words)-1] += comma
		}
		p.account(&line.Account)
		p.amount(&line.Amount)
		if line.Tag != "" {
			p.put(tagMark + line.Tag)
		}
	}
}

// parser takes each field's word from the beginning of what is left.
type parser struct {
	left   string
	digits int
}

func (p *parser) skipBlanks() { p.left = strings.TrimLeft(p.left, blanks) }

func (p *parser) atEnd() bool {
	p.skipBlanks()
	return p.left == ""
}

// comes tells whether what comes next begins so.
func (p *parser) comes(beginning string) bool {
	p.skipBlanks()
	return strings.HasPrefix(p.left, beginning)
}

// take passes over a mark, if it comes next.
func (p *parser) take(mark string) bool {
	there := p.comes(mark)
	if there {
		p.left = p.left[len(mark):]
	}
	return there
}

func (p *parser) word() string {
	p.skipBlanks()
	end := strings.IndexAny(p.left, noWord)
	if end < 0 {
		end = len(p.left)
	}
	must(end > 0)
	word := p.left[:end]
	p.left = p.left[end:]
	return word
}

// oneOf is the number of the next word among some.
func (p *parser) oneOf(words []string) int {
	number := slices.Index(words, p.word())
	must(number >= 0)
	return number
}

func (p *parser) day(n *int) {
	number, e := day.Parse(p.word())
	must(e == api.OK)
	*n = number
}

func (p *parser) due(n *int) {
	must(p.word() == dueWord)
	p.day(n)
}

func (p *parser) rootType(n *int) {
	if !p.atEnd() {
		*n = p.oneOf(typeWords())
	}
}

func (p *parser) account(s *string) { *s = p.word() }
func (p *parser) key(s *string)     { *s = p.word() }

func (p *parser) memo(s *string) {
	if p.take(quote) {
		memo, left, ended := strings.Cut(p.left, quote)
		must(ended)
		*s, p.left = memo, left
	}
}

func (p *parser) amount(a *int64) {
	amount, e := money.Parse(p.word(), p.digits)
	must(e == api.OK)
	*a = amount
}

func (p *parser) tag(s *string) {
	if p.comes(tagMark) {
		*s = strings.TrimPrefix(p.word(), tagMark)
		must(*s != "") // the empty tag has no word
	}
}

func (p *parser) lines(l *[]api.Line) {
	for more := true; more; more = p.take(comma) {
		var line api.Line
		p.account(&line.Account)
		p.amount(&line.Amount)
		p.tag(&line.Tag)
		*l = append(*l, line)
	}
}
