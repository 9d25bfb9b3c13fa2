package grammar

import (
	"slices"

	"daybook/api"
)

// fault: why a text is no query, and the place of the token at which that is seen.
type fault struct {
	at  int
	why api.Errno
}

// parser reads a query; it gives up by panic with a fault, at the first token that is at one.
type parser struct {
	scanner
	now          token                 // what comes next: found good ahead of all behind it
	levels       []func(level int) int // how an expression of each level is read; it answers the place of its own node
	nodes        []api.Node
	parts, depth int
}

func newParser(s string) *parser {
	p := &parser{scanner: scanner{text: s}}
	p.levels = []func(int) int{
		orLevel:       p.chain,
		andLevel:      p.chain,
		notLevel:      p.prefixed,
		relationLevel: p.pair,
		sumLevel:      p.chain,
		productLevel:  p.chain,
		signLevel:     p.prefixed,
		atomLevel:     p.atom,
	}
	p.move()
	return p
}

func (p *parser) query() api.Query {
	q := api.Query{Where: none, Limit: none}
	if p.take("where") {
		q.Where = p.expression(orLevel)
	}
	if p.take("by") {
		q.By = listed(p, p.field)
	}
	p.must(p.take("show"))
	q.Show = listed(p, p.aggregate)
	if p.take("order") {
		q.Orders = listed(p, p.order)
	}
	if p.take("limit") {
		q.Limit = p.number(0, maxLimit)
	}
	p.must(p.now.at == len(p.text))
	q.Nodes = p.nodes
	return q
}

// listed reads one or more, with a comma between two.
func listed[T any](p *parser, one func() T) []T {
	l := []T{one()}
	for p.take(",") {
		l = append(l, one())
	}
	return l
}

func (p *parser) field() int {
	f := p.now.leaf.Field
	p.must(isField(f))
	p.move()
	return f
}

func (p *parser) aggregate() api.Agg {
	kind := slices.Index(aggregateNames()[api.ACount:], p.now.sign) + api.ACount
	p.must(kind >= api.ACount)
	p.move()
	if kind == api.ACount {
		return api.Agg{Kind: kind, Of: none}
	}
	return api.Agg{Kind: kind, Of: p.bracketed()}
}

func (p *parser) order() api.Order {
	column := p.number(1, maxColumn) - 1
	desc := p.take("desc")
	if !desc {
		p.take("asc")
	}
	return api.Order{Column: column, Desc: desc}
}

func (p *parser) number(least, most int64) int {
	n := p.now.leaf
	p.must(n.Op == api.QNum && n.Num >= least && n.Num <= most)
	p.move()
	return int(n.Num)
}

// expression reads one of a level, by the level's own way.
func (p *parser) expression(level int) int { return p.levels[level](level) }

// chain: parts of the next level with operations of this one between them, taken from the left.
func (p *parser) chain(level int) int {
	left := p.expression(level + 1)
	for op := p.comes(level); op != 0; op = p.comes(level) {
		p.part()
		left = p.add(api.Node{Op: op, Left: left, Right: p.expression(level + 1)})
	}
	return left
}

// pair: one part of the next level, or two with an operation between them.
func (p *parser) pair(level int) int {
	left := p.expression(level + 1)
	op := p.comes(level)
	if op == 0 {
		return left
	}
	p.part()
	return p.add(api.Node{Op: op, Left: left, Right: p.expression(level + 1)})
}

// prefixed: a part of the next level, with operations of this one ahead of it.
func (p *parser) prefixed(level int) int {
	op := p.comes(level)
	if op == 0 {
		return p.expression(level + 1)
	}
	p.enter()
	p.part()
	of := p.expression(level)
	p.leave()
	return p.add(api.Node{Op: op, Left: of, Right: none})
}

func (p *parser) atom(int) int {
	leaf := p.now.leaf
	if leaf.Op == 0 {
		return p.bracketed()
	}
	p.part()
	return p.add(leaf)
}

func (p *parser) bracketed() int {
	p.must(p.now.sign == "(")
	p.enter()
	p.move()
	of := p.expression(orLevel)
	p.must(p.take(")"))
	p.leave()
	return of
}

// comes is the Op of a level whose sign comes next; 0, if none does.
func (p *parser) comes(level int) int {
	for op, o := range operations {
		if o.level == level && o.sign == p.now.sign {
			return op
		}
	}
	return 0
}

// add puts a node behind the others, and answers its place.
func (p *parser) add(n api.Node) int {
	p.nodes = append(p.nodes, n)
	return len(p.nodes) - 1
}

// part passes over a token that is a part of an expression.
func (p *parser) part() {
	p.parts++
	p.within(p.parts, api.MaxNodes)
	p.move()
}

// enter goes down by the token that comes next; leave comes up again.
func (p *parser) enter() {
	p.depth++
	p.within(p.depth, api.MaxDeep)
}

func (p *parser) leave() { p.depth-- }

// take passes over a sign, if it comes next.
func (p *parser) take(sign string) bool {
	there := p.now.sign == sign
	if there {
		p.move()
	}
	return there
}

func (p *parser) move() { p.now = p.next() }

// must gives up at the token that comes next, unless the grammar lets it stand there.
func (p *parser) must(so bool) {
	if !so {
		panic(fault{p.now.at, api.ErrSyntax})
	}
}

// within gives up at the token that comes next, if it makes something too many.
func (p *parser) within(n, most int) {
	if n > most {
		panic(fault{p.now.at, api.ErrDeep})
	}
}
