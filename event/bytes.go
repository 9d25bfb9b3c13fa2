package event

import (
	"daybook/api"
	"daybook/number"
)

// encoded is a valid event's bytes.
func encoded(e api.Event) []byte {
	w := &writer{[]byte{byte(e.Kind)}}
	visit(narrow(e), w)
	return w.b
}

// decoded is the valid event whose bytes b are; it gives up, if they are none's.
func decoded(b []byte) api.Event {
	r := &reader{b}
	e := filled(int(r.next()), r)
	must(len(r.left) == 0)
	return e
}

// filled is the valid event of a kind's number whose fields are read by r.
func filled(number int, r visitor) api.Event {
	k := narrow(api.Event{Kind: number})
	must(k != nil)
	visit(k, r)
	e := widen(k)
	must(valid(e))
	return e
}

// must leaves a reader, however deep it is, if what it needs is not so; the face answers the reason.
func must(so bool) {
	if !so {
		panic(api.ErrEvent)
	}
}

// writer puts each field behind those ahead of it.
type writer struct{ b []byte }

func (w *writer) number(n uint64) { w.b = number.Append(w.b, n) }

func (w *writer) text(s *string) {
	w.number(uint64(len(*s)))
	w.b = append(w.b, *s...)
}

func (w *writer) day(n *int)        { w.number(uint64(*n)) }
func (w *writer) due(n *int)        { w.day(n) }
func (w *writer) rootType(n *int)   { w.b = append(w.b, byte(*n)) }
func (w *writer) account(s *string) { w.text(s) }
func (w *writer) key(s *string)     { w.text(s) }
func (w *writer) memo(s *string)    { w.text(s) }
func (w *writer) amount(a *int64)   { w.number(number.OfInt(*a)) }

func (w *writer) lines(l *[]api.Line) {
	w.b = append(w.b, byte(len(*l)))
	for _, line := range *l {
		w.text(&line.Account)
		w.amount(&line.Amount)
		w.text(&line.Tag)
	}
}

// reader takes each field from the beginning of what is left.
type reader struct{ left []byte }

func (r *reader) next() byte {
	must(len(r.left) > 0)
	b := r.left[0]
	r.left = r.left[1:]
	return b
}

func (r *reader) number() uint64 {
	n, size := number.First(r.left)
	must(size > 0)
	r.left = r.left[size:]
	return n
}

func (r *reader) text(s *string) {
	n := r.number()
	must(n <= uint64(len(r.left)))
	*s = string(r.left[:n])
	r.left = r.left[n:]
}

func (r *reader) day(n *int) {
	told := r.number()
	must(told <= api.MaxDay) // else it might not fit an int
	*n = int(told)
}

func (r *reader) due(n *int)        { r.day(n) }
func (r *reader) rootType(n *int)   { *n = int(r.next()) }
func (r *reader) account(s *string) { r.text(s) }
func (r *reader) key(s *string)     { r.text(s) }
func (r *reader) memo(s *string)    { r.text(s) }
func (r *reader) amount(a *int64)   { *a = number.ToInt(r.number()) }

func (r *reader) lines(l *[]api.Line) {
	for range int(r.next()) {
		var line api.Line
		r.text(&line.Account)
		r.amount(&line.Amount)
		r.text(&line.Tag)
		*l = append(*l, line)
	}
}
