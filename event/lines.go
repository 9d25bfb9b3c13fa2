package event

import (
	"slices"
	"strings"

	"daybook/api"
	"daybook/cut"
	"daybook/day"
	"daybook/money"
)

// kindWords: each at its kind's number.
func kindWords() []string {
	return []string{
		api.KOpen: "open", api.KClose: "close", api.KPost: "post", api.KVoid: "void",
		api.KInvoice: "invoice", api.KPay: "pay", api.KAllot: "allot", api.KLock: "lock",
	}
}

// typeWords: each at its type's number.
func typeWords() []string {
	return []string{api.Asset: "asset", api.Liability: "liability", api.Equity: "equity", api.Income: "income", api.Expense: "expense"}
}

// dueWord stands ahead of an invoice's second day.
const dueWord = "due"

// printed is a valid event's line.
func printed(e api.Event, digits int) string {
	p := &printer{[]string{kindWords()[e.Kind]}, digits}
	visit(narrow(e), p)
	return strings.Join(p.words, " ")
}

// parsed is the valid event whose line s is; it gives up, if it is none's.
func parsed(s string, digits int) api.Event {
	left, whole := cut.Line(s)
	must(whole)
	p := &parser{left, digits}
	e := filled(p.oneOf(kindWords()), p)
	must(len(p.left) == 0)
	return e
}

// printer puts each field's word behind those ahead of it.
type printer struct {
	words  []string
	digits int
}

func (p *printer) put(word string) { p.words = append(p.words, word) }

func (p *printer) day(n *int) {
	text, _ := day.Print(*n)
	p.put(text)
}

func (p *printer) due(n *int) {
	p.put(dueWord)
	p.day(n)
}

func (p *printer) rootType(n *int) {
	if *n != 0 {
		p.put(typeWords()[*n])
	}
}

func (p *printer) account(s *string) { p.put(*s) }
func (p *printer) key(s *string)     { p.put(*s) }

func (p *printer) memo(s *string) {
	if *s != "" {
		p.put(cut.Quote + *s + cut.Quote)
	}
}

func (p *printer) amount(a *int64) {
	text, _ := money.Print(*a, p.digits)
	p.put(text)
}

func (p *printer) lines(l *[]api.Line) {
	for i, line := range *l {
		if i > 0 {
			p.words[len(p.words)-1] += cut.Comma
		}
		p.account(&line.Account)
		p.amount(&line.Amount)
		if line.Tag != "" {
			p.put(cut.TagMark + line.Tag)
		}
	}
}

// parser takes each field's piece from the beginning of those that are left.
type parser struct {
	left   []cut.Piece
	digits int
}

// comes tells whether a piece of a sort comes next.
func (p *parser) comes(sort cut.Sort) bool { return len(p.left) > 0 && p.left[0].Sort == sort }

// take passes over the next piece, which must be of a sort.
func (p *parser) take(sort cut.Sort) string {
	must(p.comes(sort))
	text := p.left[0].Text
	p.left = p.left[1:]
	return text
}

func (p *parser) word() string { return p.take(cut.WordSort) }

// oneOf is the number of the next word among some.
func (p *parser) oneOf(words []string) int {
	number := slices.Index(words, p.word())
	must(number >= 0)
	return number
}

func (p *parser) day(n *int) {
	number, e := day.Parse(p.word())
	must(e == api.OK)
	*n = number
}

func (p *parser) due(n *int) {
	must(p.word() == dueWord)
	p.day(n)
}

func (p *parser) rootType(n *int) {
	if len(p.left) > 0 {
		*n = p.oneOf(typeWords())
	}
}

func (p *parser) account(s *string) { *s = p.word() }
func (p *parser) key(s *string)     { *s = p.word() }

func (p *parser) memo(s *string) {
	if p.comes(cut.MemoSort) {
		*s = p.take(cut.MemoSort)
	}
}

func (p *parser) amount(a *int64) {
	amount, e := money.Parse(p.word(), p.digits)
	must(e == api.OK)
	*a = amount
}

func (p *parser) tag(s *string) {
	if p.comes(cut.WordSort) {
		tag, marked := strings.CutPrefix(p.word(), cut.TagMark)
		must(marked && tag != "") // the empty tag has no word
		*s = tag
	}
}

func (p *parser) lines(l *[]api.Line) {
	p.line(l)
	for p.comes(cut.CommaSort) {
		p.take(cut.CommaSort)
		p.line(l)
	}
}

func (p *parser) line(l *[]api.Line) {
	var line api.Line
	p.account(&line.Account)
	p.amount(&line.Amount)
	p.tag(&line.Tag)
	*l = append(*l, line)
}
