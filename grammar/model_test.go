package grammar

import (
	"math/big"
	"math/rand/v2"
	"regexp"
	"slices"
	"strconv"
	"strings"
	"testing"
	"time"

	"daybook/api"
)

// rows: the grammar as 13.2 writes it, with a > where something that counts for the depth is at its end.
const rows = `
query = [ "where" or ] [ "by" field { "," field } ] "show" agg { "," agg } [ "order" key { "," key } ] [ "limit" number ]
agg = "count" | ( "sum" | "min" | "max" ) "(" or > ")"
key = number [ "asc" | "desc" ]
or = and { "or" and }
and = not { "and" not }
not = "not" not > | rel
rel = sum [ ( "=" | "<>" | "<" | "<=" | ">" | ">=" | "under" | "has" ) sum ]
sum = prod { ( "+" | "-" ) prod }
prod = neg { "*" neg }
neg = "-" neg > | atom
atom = number | day | text | "true" | "false" | field | "(" or > ")"`

const (
	keyWords   = "where by show order limit count sum min max and or not under has true false asc desc"
	fieldWords = "seq line day kind key account amount debit credit tag memo month year root"
)

var allKeys, allFields = strings.Fields(keyWords), strings.Fields(fieldWords)

// piece: of a row: a token, a row's name, what is in [ ] or { } or ( ), or a >.
type piece struct {
	what byte // t, n, [, {, (, >
	name string
	row  string
	alts [][]piece
}

// grammarOf: the rows, by their names.
func grammarOf() map[string][][]piece {
	g := map[string][][]piece{}
	for _, row := range strings.Split(strings.TrimSpace(rows), "\n") {
		words := strings.Fields(row)
		g[words[0]], _ = alternatives(words[0], words[2:])
	}
	return g
}

// alternatives: those that words tell up to their end or a closing bracket, and the words behind.
func alternatives(row string, words []string) ([][]piece, []string) {
	alts := [][]piece{nil}
	for len(words) > 0 {
		w := words[0]
		words = words[1:]
		var p piece
		switch {
		case w == "|":
			alts = append(alts, nil)
			continue
		case w == "]" || w == "}" || w == ")":
			return alts, words
		case w == "[" || w == "{" || w == "(":
			p = piece{what: w[0], row: row}
			p.alts, words = alternatives(row, words)
		case w == ">":
			p = piece{what: '>'}
		case w[0] == '"':
			p = piece{what: 't', name: strings.Trim(w, `"`), row: row}
		case slices.Contains(strings.Fields("number day text field"), w):
			p = piece{what: 't', name: "#" + w, row: row}
		default:
			p = piece{what: 'n', name: w}
		}
		alts[len(alts)-1] = append(alts[len(alts)-1], p)
	}
	return alts, nil
}

// stack: what must come, the next first.
type stack struct {
	top  *piece
	rest *stack
}

func (s *stack) under(l []piece) *stack {
	for i := len(l) - 1; i >= 0; i-- {
		s = &stack{&l[i], s}
	}
	return s
}

// atFirst: that a query comes.
func atFirst() *stack { return &stack{top: &piece{what: 'n', name: "query"}} }

// depth: how many of what counts for it is not at its end.
func (s *stack) depth() (n int) {
	for ; s != nil; s = s.rest {
		if s.top.what == '>' {
			n++
		}
	}
	return n
}

// mayEnd: whether nothing of it must come.
func (s *stack) mayEnd() bool {
	for ; s != nil; s = s.rest {
		if !strings.Contains("[{>", string(s.top.what)) {
			return false
		}
	}
	return true
}

// step: a stack behind a token, and the row of the piece that took it.
type step struct {
	behind *stack
	row    string
}

// steps: all that a token may lead to.
func (s *stack) steps(g map[string][][]piece, t plain) (l []step) {
	if s == nil {
		return nil
	}
	p := s.top
	alts := p.alts
	switch p.what {
	case 't':
		if p.name == t.kind && t.mayBe(p.row) {
			return []step{{s.rest, p.row}}
		}
		return nil
	case '>':
		return s.rest.steps(g, t)
	case 'n':
		alts = g[p.name]
	case '[', '{':
		l = s.rest.steps(g, t)
	}
	rest := s.rest
	if p.what == '{' {
		rest = s
	}
	for _, a := range alts {
		l = append(l, rest.under(a).steps(g, t)...)
	}
	return l
}

// plain: a token: its place and bytes; kind: itself of a key or a mark, #number, #day, #text, #field, #end, or empty, if it is none.
type plain struct {
	at   int
	kind string
	as   string
	num  int64
	text string
}

// mayBe: whether a number is one that a row lets stand; all others are.
func (t plain) mayBe(row string) bool {
	switch {
	case t.kind != "#number":
		return true
	case row == "key":
		return t.num >= 1 && t.num <= 99
	case row == "query":
		return t.num <= 999999999
	}
	return true
}

var (
	wordForm   = regexp.MustCompile(`\A[a-z]+`)
	dayForm    = regexp.MustCompile(`\A[0-9]{4}-[0-9]{2}-[0-9]{2}`)
	longerForm = regexp.MustCompile(`\A[0-9]{4}-[0-9]{2}-[0-9]{3}`)
	numberForm = regexp.MustCompile(`\A[0-9]+`)
	textForm   = regexp.MustCompile(`\A'(?:[ -&(-~]|'')*'`)
	markForm   = regexp.MustCompile(`\A(?:<>|<=|>=|[(),+*=<>-])`)
	saidForm   = regexp.MustCompile(`\A[ -~]*\z`)
	behindForm = regexp.MustCompile(`\A[a-z0-9]`)
)

// plainToken: what comes in s from a place on, by the words of 13.1.
func plainToken(s string, at int) plain {
	for at < len(s) && strings.Contains(" \t\n\r", s[at:at+1]) {
		at++
	}
	left := s[at:]
	t := plain{at: at}
	if left == "" {
		t.kind = "#end"
		return t
	}
	good := true
	switch {
	case wordForm.MatchString(left):
		t.as = wordForm.FindString(left)
		good = t.isWord() && !behindForm.MatchString(left[len(t.as):])
	case dayForm.MatchString(left) && !longerForm.MatchString(left):
		t.as, t.kind = left[:10], "#day"
		good = t.isDay() && !behindForm.MatchString(left[10:])
	case numberForm.MatchString(left):
		t.as, t.kind = numberForm.FindString(left), "#number"
		n, _ := new(big.Int).SetString(t.as, 10)
		t.num = n.Int64()
		good = n.IsInt64() && !behindForm.MatchString(left[len(t.as):])
	case textForm.MatchString(left):
		t.as, t.kind = textForm.FindString(left), "#text"
		t.text = strings.ReplaceAll(t.as[1:len(t.as)-1], "''", "'")
		good = !strings.HasPrefix(left[len(t.as):], "'")
	default:
		t.as = markForm.FindString(left)
		t.kind = t.as
	}
	if !good {
		return plain{at: at}
	}
	return t
}

func (t *plain) isWord() bool {
	if f := slices.Index(allFields, t.as); f >= 0 {
		t.kind, t.num = "#field", int64(f+1)
		return true
	}
	t.kind = t.as
	return slices.Contains(allKeys, t.as)
}

func (t *plain) isDay() bool {
	d, err := time.Parse("2006-01-02", t.as)
	t.num = d.Unix()/86400 + 719163
	return err == nil && d.Year() >= 1
}

// plainCut: a text's tokens, up to the end, or to what is none.
func plainCut(s string) (l []plain) {
	for at := 0; ; {
		t := plainToken(s, at)
		l = append(l, t)
		if t.kind == "#end" || t.kind == "" {
			return l
		}
		at = t.at + len(t.as)
	}
}

var theGrammar = grammarOf()

// plainRun: the first fault of a text without bounds, the greatest depth, and the places where a 17th depth and a 201st part are.
type plainRun struct {
	fault, deepest, deepAt, manyAt int
}

func runOf(t *testing.T, s string) plainRun {
	t.Helper()
	r := plainRun{-1, 0, -1, -1}
	now := atFirst()
	parts := 0
	for _, k := range plainCut(s) {
		if k.kind == "#end" {
			if !now.mayEnd() {
				r.fault = k.at
			}
			break
		}
		l := now.steps(theGrammar, k)
		if len(l) > 1 {
			t.Fatalf("%q goes on at %d in %d ways", s, k.at, len(l))
		}
		if len(l) == 0 {
			r.fault = k.at
			break
		}
		now = l[0].behind
		r.deepest = max(r.deepest, now.depth())
		if now.depth() > 16 && r.deepAt < 0 {
			r.deepAt = k.at
		}
		if strings.Contains(" or and not rel sum prod neg atom ", " "+l[0].row+" ") && k.kind != "(" && k.kind != ")" {
			parts++
		}
		if parts > 200 && r.manyAt < 0 {
			r.manyAt = k.at
		}
	}
	return r
}

// plainFault: what Parse has to answer beside the query.
func plainFault(t *testing.T, s string) (int, api.Errno) {
	t.Helper()
	if len(s) > 600 {
		return 600, api.ErrLong
	}
	r := runOf(t, s)
	at, why := 0, api.OK
	for _, x := range []struct {
		at  int
		why api.Errno
	}{{r.fault, api.ErrSyntax}, {r.deepAt, api.ErrDeep}, {r.manyAt, api.ErrDeep}} {
		if x.at >= 0 && (why == api.OK || x.at < at) {
			at, why = x.at, x.why
		}
	}
	return at, why
}

// tree: an expression: its node (without places) and its parts.
type tree struct {
	node  api.Node
	parts []*tree
}

// whole: a query with its expressions as trees.
type whole struct {
	where  *tree
	by     []int
	kinds  []int
	of     []*tree // nil of ACount
	orders []api.Order
	limit  int
}

// query: the parts as 13.3 lays them.
func (w whole) query() api.Query {
	q := api.Query{Where: -1, By: w.by, Orders: w.orders, Limit: w.limit}
	if w.where != nil {
		q.Where = w.where.lay(&q.Nodes)
	}
	for i, kind := range w.kinds {
		a := api.Agg{Kind: kind, Of: -1}
		if w.of[i] != nil {
			a.Of = w.of[i].lay(&q.Nodes)
		}
		q.Show = append(q.Show, a)
	}
	return q
}

func (x *tree) lay(l *[]api.Node) int {
	n := x.node
	places := []int{-1, -1}
	for i, p := range x.parts {
		places[i] = p.lay(l)
	}
	n.Left, n.Right = places[0], places[1]
	*l = append(*l, n)
	return len(*l) - 1
}

var opOf = map[string]int{"or": api.QOr, "and": api.QAnd, "=": api.QEq, "<>": api.QNe, "<": api.QLt, "<=": api.QLe, ">": api.QGt, ">=": api.QGe, "under": api.QUnder, "has": api.QHas, "+": api.QAdd, "-": api.QSub, "*": api.QMul}

func signOf(op int) string {
	for s, o := range opOf {
		if o == op {
			return s
		}
	}
	return map[int]string{api.QNot: "not", api.QNeg: "-"}[op]
}

// plainTree: an expression's tokens (without a fault), cut at the sign that is worked out last.
func plainTree(l []plain) *tree {
	last := func(signs string) int {
		at, depth := -1, 0
		for i, t := range l {
			switch {
			case t.kind == "(":
				depth++
			case t.kind == ")":
				depth--
			case depth == 0 && i > 0 && strings.Contains(" "+signs+" ", " "+t.kind+" ") && (l[i-1].kind == ")" || l[i-1].kind[0] == '#' || l[i-1].kind == "true" || l[i-1].kind == "false"):
				at = i
			}
		}
		return at
	}
	for _, signs := range []string{"or", "and", "not", "= <> < <= > >= under has", "+ -", "*"} {
		if signs == "not" && l[0].kind == "not" {
			return &tree{api.Node{Op: api.QNot}, []*tree{plainTree(l[1:])}}
		}
		if at := last(signs); at >= 0 {
			return &tree{api.Node{Op: opOf[l[at].kind]}, []*tree{plainTree(l[:at]), plainTree(l[at+1:])}}
		}
	}
	switch t := l[0]; t.kind {
	case "-":
		return &tree{api.Node{Op: api.QNeg}, []*tree{plainTree(l[1:])}}
	case "(":
		return plainTree(l[1 : len(l)-1])
	case "#number":
		return leafOf(api.QNum, t.num, "")
	case "#day":
		return leafOf(api.QDay, t.num, "")
	case "#text":
		return leafOf(api.QText, 0, t.text)
	case "#field":
		return &tree{api.Node{Op: api.QField, Field: int(t.num)}, nil}
	}
	return leafOf(api.QBool, int64(strings.Count(l[0].kind, "true")), "")
}

func leafOf(op int, n int64, text string) *tree {
	return &tree{api.Node{Op: op, Num: n, Text: text}, nil}
}

// plainWhole: a text without a fault, cut at its keys and at the commas outside of brackets.
func plainWhole(s string) whole {
	l := plainCut(s)
	clauses := map[string][][]plain{}
	clause, depth := "", 0
	for _, t := range l[:len(l)-1] {
		depth += strings.Count(t.kind, "(") - strings.Count(t.kind, ")")
		c := clauses[clause]
		switch {
		case strings.Contains(" where by show order limit ", " "+t.kind+" "):
			clause = t.kind
			clauses[clause] = [][]plain{nil}
		case t.kind == "," && depth == 0:
			clauses[clause] = append(c, nil)
		default:
			c[len(c)-1] = append(c[len(c)-1], t)
		}
	}
	w := whole{limit: -1}
	if c := clauses["where"]; c != nil {
		w.where = plainTree(c[0])
	}
	for _, c := range clauses["by"] {
		w.by = append(w.by, int(c[0].num))
	}
	for _, c := range clauses["show"] {
		w.kinds = append(w.kinds, 1+slices.Index(strings.Fields("count sum min max"), c[0].kind))
		if len(c) == 1 {
			w.of = append(w.of, nil)
		} else {
			w.of = append(w.of, plainTree(c[2:len(c)-1]))
		}
	}
	for _, c := range clauses["order"] {
		w.orders = append(w.orders, api.Order{Column: int(c[0].num) - 1, Desc: len(c) > 1 && c[1].kind == "desc"})
	}
	if c := clauses["limit"]; c != nil {
		w.limit = int(c[0][0].num)
	}
	return w
}

// same: of queries, nil and empty lists being alike.
func same(a, b api.Query) bool {
	return slices.Equal(a.Nodes, b.Nodes) && a.Where == b.Where && slices.Equal(a.By, b.By) && slices.Equal(a.Show, b.Show) && slices.Equal(a.Orders, b.Orders) && a.Limit == b.Limit
}

// copied: a query that shares nothing with q.
func copied(q api.Query) api.Query {
	q.Nodes, q.By, q.Show, q.Orders = slices.Clone(q.Nodes), slices.Clone(q.By), slices.Clone(q.Show), slices.Clone(q.Orders)
	return q
}

// needsBrackets: round a part of an operation, as 13.4 lists it.
func needsBrackets(op, part int, right bool) bool {
	is := func(o int, signs string) bool {
		name := signOf(o)
		if o == api.QNeg {
			name = "~"
		}
		return slices.Contains(strings.Fields(signs), name)
	}
	const rel = "= <> < <= > >= under has"
	switch {
	case is(op, "and") && is(part, "or"), is(op, "not") && is(part, "or and"):
		return true
	case is(op, rel+" + - * ~") && is(part, rel+" not and or"):
		return true
	case is(op, "* ~") && is(part, "+ -"), is(op, "~") && is(part, "*"):
		return true
	}
	for _, row := range []string{"or", "and", "+ -", "*"} {
		if right && is(op, row) && is(part, row) {
			return true
		}
	}
	return false
}

// The tokens of a text, as they are written, but for these two.
const (
	sign = "\x00-" // the - of neg
	open = "\x00(" // the ( of sum, min and max
)

func (x *tree) tokens() []string {
	part := func(i int) []string {
		l := x.parts[i].tokens()
		if needsBrackets(x.node.Op, x.parts[i].node.Op, i == 1) {
			l = slices.Concat([]string{"("}, l, []string{")"})
		}
		return l
	}
	switch x.node.Op {
	case api.QNeg:
		return append([]string{sign}, part(0)...)
	case api.QNot:
		return append([]string{"not"}, part(0)...)
	case api.QField:
		return []string{allFields[x.node.Field-1]}
	case api.QNum:
		return []string{strconv.FormatInt(x.node.Num, 10)}
	case api.QDay:
		return []string{time.Unix((x.node.Num-719163)*86400, 0).UTC().Format("2006-01-02")}
	case api.QText:
		return []string{"'" + strings.ReplaceAll(x.node.Text, "'", "''") + "'"}
	case api.QBool:
		return []string{map[int64]string{0: "false", 1: "true"}[x.node.Num]}
	}
	return slices.Concat(part(0), []string{signOf(x.node.Op)}, part(1))
}

func (w whole) tokens() (l []string) {
	list := func(key string, n int, one func(i int) []string) {
		for i := range n {
			l = append(l, map[bool]string{true: key, false: ","}[i == 0])
			l = append(l, one(i)...)
		}
	}
	if w.where != nil {
		l = append([]string{"where"}, w.where.tokens()...)
	}
	list("by", len(w.by), func(i int) []string { return []string{allFields[w.by[i]-1]} })
	list("show", len(w.kinds), func(i int) []string {
		name := strings.Fields("count sum min max")[w.kinds[i]-1]
		if w.of[i] == nil {
			return []string{name}
		}
		return slices.Concat([]string{name, open}, w.of[i].tokens(), []string{")"})
	})
	list("order", len(w.orders), func(i int) []string {
		n := strconv.Itoa(w.orders[i].Column + 1)
		if w.orders[i].Desc {
			return []string{n, "desc"}
		}
		return []string{n}
	})
	if w.limit >= 0 {
		l = append(l, "limit", strconv.Itoa(w.limit))
	}
	return l
}

// spaced: tokens as 13.4 spaces them.
func spaced(l []string) string {
	var b strings.Builder
	for i, t := range l {
		if i > 0 && !slices.Contains([]string{")", ",", open}, t) && !slices.Contains([]string{"(", open, sign}, l[i-1]) {
			b.WriteByte(' ')
		}
		b.WriteString(strings.TrimPrefix(t, "\x00"))
	}
	return b.String()
}

// unfold: the trees that q's places lead to; nil, if one of them leads nowhere, or a leaf is none.
func unfold(q api.Query) *whole {
	w := whole{by: q.By, orders: q.Orders, limit: q.Limit}
	good := len(q.Show) > 0 && q.Limit >= -1 && q.Limit <= 999999999
	if q.Where != -1 {
		w.where = unfolded(q.Nodes, q.Where)
		good = good && w.where != nil
	}
	for _, f := range q.By {
		good = good && f >= 1 && f <= 14
	}
	for _, a := range q.Show {
		var x *tree
		if a.Kind != api.ACount {
			x = unfolded(q.Nodes, a.Of)
			good = good && x != nil
		}
		good = good && a.Kind >= 1 && a.Kind <= 4
		w.kinds, w.of = append(w.kinds, a.Kind), append(w.of, x)
	}
	for _, o := range q.Orders {
		good = good && o.Column >= 0 && o.Column <= 98
	}
	if !good {
		return nil
	}
	return &w
}

func unfolded(l []api.Node, at int) *tree {
	if at < 0 || at >= len(l) {
		return nil
	}
	n := l[at]
	x := &tree{node: n}
	x.node.Left, x.node.Right = 0, 0
	places := []int{}
	good := n.Op == api.QField && n.Field >= 1 && n.Field <= 14 || n.Op == api.QNum && n.Num >= 0 || n.Op == api.QBool && n.Num&^1 == 0 ||
		n.Op == api.QDay && n.Num >= 1 && n.Num <= 3652059 || n.Op == api.QText && saidForm.MatchString(n.Text)
	switch {
	case n.Op == api.QNot || n.Op == api.QNeg:
		places, good = []int{n.Left}, true
	case n.Op >= api.QOr && n.Op <= api.QMul:
		places, good = []int{n.Left, n.Right}, true
	}
	for _, p := range places {
		if p >= at {
			return nil
		}
		x.parts = append(x.parts, unfolded(l, p))
		good = good && x.parts[len(x.parts)-1] != nil
	}
	if !good {
		return nil
	}
	if n.Op != api.QField {
		good = n.Field == 0
	}
	if n.Op != api.QNum && n.Op != api.QDay && n.Op != api.QBool {
		good = good && n.Num == 0
	}
	if n.Op != api.QText {
		good = good && n.Text == ""
	}
	if !good {
		return nil
	}
	return x
}

// plainPrint: what Print has to answer: of what q leads to the query must be q again.
func plainPrint(t *testing.T, q api.Query) (string, api.Errno) {
	t.Helper()
	w := unfold(q)
	if w == nil || !same(w.query(), q) {
		return "", api.ErrSyntax
	}
	s := spaced(w.tokens())
	if runOf(t, s).deepest > 16 || len(q.Nodes) > 200 {
		return "", api.ErrDeep
	}
	if len(s) > 600 {
		return "", api.ErrLong
	}
	return s, api.OK
}

// parsesAsPlain: Parse answers what the model does; it answers the query and the error.
func parsesAsPlain(t *testing.T, s string) (api.Query, api.Errno) {
	t.Helper()
	at, why := plainFault(t, s)
	want := api.Query{}
	if why == api.OK {
		want = plainWhole(s).query()
	}
	q, gotAt, got := Parse(s)
	if gotAt != at || got != why || !same(q, want) {
		t.Fatalf("Parse(%q): %+v, %d, %d; want %+v, %d, %d", s, q, gotAt, int(got), want, at, int(why))
	}
	return q, why
}

// printsAsPlain: Print answers what the model does.
func printsAsPlain(t *testing.T, q api.Query) (string, api.Errno) {
	t.Helper()
	s, why := plainPrint(t, q)
	if got, gotWhy := Print(q); got != s || gotWhy != why {
		t.Fatalf("Print(%+v): %q, %d; want %q, %d", q, got, int(gotWhy), s, int(why))
	}
	return s, why
}

func source(seed uint64) *rand.Rand { return rand.New(rand.NewPCG(13, seed)) }

func pick[T any](r *rand.Rand, from ...T) T { return from[r.IntN(len(from))] }

// anyLeaf: of any kind, and often at the bounds of it.
func anyLeaf(r *rand.Rand) *tree {
	switch r.IntN(6) {
	case 0:
		return leafOf(api.QNum, pick(r, 0, 1, 7, 2024, api.MaxAmount, r.Int64()), "")
	case 1:
		return leafOf(api.QDay, pick(r, 1, 738886, 3652059, 1+r.Int64N(3652059)), "")
	case 2:
		return leafOf(api.QText, 0, pick(r, "", "'", "''", "it's", "Assets", "a (b, c) - d", " ~ ", string([]byte{byte(32 + r.IntN(95)), byte(32 + r.IntN(95))})))
	case 3:
		return leafOf(api.QBool, r.Int64N(2), "")
	}
	return &tree{api.Node{Op: api.QField, Field: 1 + r.IntN(14)}, nil}
}

// anyTree: with about so many operations.
func anyTree(r *rand.Rand, ops int) *tree {
	if ops <= 0 {
		return anyLeaf(r)
	}
	op := pick(r, api.QOr, api.QAnd, api.QNot, api.QNot, api.QNeg, api.QNeg, api.QAdd, api.QSub, api.QMul, api.QEq+r.IntN(8))
	if op == api.QNot || op == api.QNeg {
		return &tree{api.Node{Op: op}, []*tree{anyTree(r, ops-1)}}
	}
	left := r.IntN(ops)
	return &tree{api.Node{Op: op}, []*tree{anyTree(r, left), anyTree(r, ops-1-left)}}
}

// anyWhole: a query with about so many operations in each expression.
func anyWhole(r *rand.Rand, ops int) whole {
	w := whole{limit: pick(r, -1, -1, 0, 7, 999999999)}
	if r.IntN(3) > 0 {
		w.where = anyTree(r, r.IntN(ops+1))
	}
	for range r.IntN(4) {
		w.by = append(w.by, 1+r.IntN(14))
	}
	for range 1 + r.IntN(3) {
		kind := 1 + r.IntN(4)
		var x *tree
		if kind != api.ACount {
			x = anyTree(r, r.IntN(ops/2+1))
		}
		w.kinds, w.of = append(w.kinds, kind), append(w.of, x)
	}
	for range r.IntN(3) {
		w.orders = append(w.orders, api.Order{Column: pick(r, 0, 1, 9, 98), Desc: r.IntN(2) == 0})
	}
	return w
}

// joined: tokens with as few blanks between them as keep them apart, or with more.
func joined(r *rand.Rand, l []string, more int) string {
	s := ""
	for i, t := range l {
		t = strings.TrimPrefix(t, "\x00")
		for range r.IntN(more + 1) {
			s += pick(r, " ", "\t", "\n", "\r")
		}
		if k := plainCut(s + t); i > 0 && (len(k) != i+2 || k[i].as != t) {
			s += pick(r, " ", "\t", "\n", "\r")
		}
		s += t
	}
	// What stands behind may make one of what was two: 2024 - 01 - 01.
	if k := plainCut(s); len(k) != len(l)+1 {
		return strings.ReplaceAll(strings.Join(l, "\n"), "\x00", "")
	}
	return s
}
