package ckpt

import (
	"bytes"

	"daybook/api"
	"daybook/checksum"
	"daybook/number"
)

const (
	mark     = "daybook1"
	headSize = 16 // the mark, the body's length, their sum
	sumSize  = 4
	room     = api.MaxCkpt - headSize - sumSize // for the body
)

// word: its four bytes, the lowest first.
func word(n uint32) []byte {
	return []byte{byte(n), byte(n >> 8), byte(n >> 16), byte(n >> 24)}
}

// head is what stands ahead of a body of so many bytes.
func head(n int) []byte {
	b := append([]byte(mark), word(uint32(n))...)
	return append(b, word(checksum.Of(b))...)
}

// sealed is the checkpoint of a body.
func sealed(body []byte) []byte {
	return joined(head(len(body)), body, word(checksum.Of(body)))
}

// unsealed is the body of a checkpoint, if b is one's bytes as far as its head and its sums tell.
func unsealed(b []byte) ([]byte, bool) {
	if len(b) < headSize+sumSize {
		return nil, false
	}
	end := len(b) - sumSize
	body := b[headSize:end:end]
	return body, bytes.Equal(b, sealed(body))
}

// joined puts sections together.
func joined(sections ...[]byte) []byte {
	n := 0
	for _, s := range sections {
		n += len(s)
	}
	b := make([]byte, n)
	at := 0
	for _, s := range sections {
		at += copy(b[at:], s)
	}
	return b
}

// writer puts each part behind those ahead of it, as long as they have room. It stops there: one text, or one list, may stand in a Snap so often that all of them are far more than the Snap itself.
type writer struct {
	body []byte
	long bool // something found no room
}

// fits tells whether so many more bytes have room, and all ahead of them had.
func (w *writer) fits(n int) bool {
	w.long = w.long || n > room-len(w.body)
	return !w.long
}

func (w *writer) count(n uint64) {
	if w.fits(number.Size(n)) {
		w.body = number.Append(w.body, n)
	}
}

func (w *writer) text(s *string) {
	w.count(uint64(len(*s)))
	if w.fits(len(*s)) {
		w.body = append(w.body, *s...)
	}
}

func (w *writer) flag(f *bool) {
	if *f {
		w.count(1)
	} else {
		w.count(0)
	}
}

func (w *writer) length(n, _ int) int {
	w.count(uint64(n))
	if w.long {
		return 0
	}
	return n
}

func (w *writer) number(n *int)   { w.count(number.OfInt(int64(*n))) }
func (w *writer) amount(n *int64) { w.count(number.OfInt(*n)) }

// reader takes each part from the beginning of what is left. Behind the first thing that can't be nothing is left, so that all others can't be either.
type reader struct {
	left []byte
	bad  bool
}

func (r *reader) fail() { r.left, r.bad = nil, true }

// cut takes so many bytes.
func (r *reader) cut(n uint64) []byte {
	if n > uint64(len(r.left)) {
		r.fail()
		return nil
	}
	section := r.left[:n:n]
	r.left = r.left[n:]
	return section
}

func (r *reader) count() uint64 {
	n, size := number.First(r.left)
	if size == 0 {
		r.fail()
	}
	r.cut(uint64(size))
	return n
}

func (r *reader) text(s *string) { *s = string(r.cut(r.count())) }

// flag: its two bytes are the counts 0 and 1.
func (r *reader) flag(f *bool) {
	n := r.count()
	if n > 1 {
		r.fail()
	}
	*f = n == 1
}

// length: no list is made for more parts than what is left can hold, whatever is told.
func (r *reader) length(_, least int) int {
	n := r.count()
	if n > uint64(len(r.left)/least) {
		r.fail()
		return 0
	}
	return int(n)
}

func (r *reader) number(n *int)   { *n = int(number.ToInt(r.count())) }
func (r *reader) amount(n *int64) { *n = number.ToInt(r.count()) }
