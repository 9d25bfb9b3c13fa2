// Package cut cuts a line of text into pieces, which are words, memos and commas: see doc/05-event.md, 5.3. The lines of events are cut so, and those of journals.
package cut

import "strings"

// The bytes by which pieces are told from one another.
const (
	Blanks = " \t"
	Comma  = ","
	Quote  = `"`
	noWord = Blanks + Comma + Quote
)

// TagMark is the first byte of a tag's word.
const TagMark = "#"

// Sort is what a piece is.
type Sort int

const (
	WordSort Sort = iota + 1
	MemoSort
	CommaSort
)

// Piece: its Text is, of a memo, what stands between its quotes.
type Piece struct {
	Sort Sort
	Text string
}

// Line cuts a line, from the left; none and false, if a quote in it begins no memo.
func Line(line string) ([]Piece, bool) {
	// A copy, so that what is kept of a piece does not hold fast the text that the line stands in.
	left := withoutBlanks(strings.Clone(line))
	var l []Piece
	for left != "" {
		piece, size := first(left)
		if size == 0 {
			return nil, false
		}
		l = append(l, piece)
		left = withoutBlanks(left[size:])
	}
	return l, true
}

func withoutBlanks(s string) string { return strings.TrimLeft(s, Blanks) }

// first is the piece at the beginning of a text that begins with no blank, and how many bytes it has there: 0, if there is none.
func first(s string) (Piece, int) {
	switch s[:1] {
	case Comma:
		return Piece{CommaSort, Comma}, len(Comma)
	case Quote:
		return memo(s)
	}
	size := strings.IndexAny(s, noWord)
	if size < 0 {
		size = len(s)
	}
	return Piece{WordSort, s[:size]}, size
}

func memo(s string) (Piece, int) {
	for at := len(Quote); at < len(s) && s[at] >= ' ' && s[at] <= '~'; at++ {
		if s[at:at+1] == Quote {
			return Piece{MemoSort, s[len(Quote):at]}, at + len(Quote)
		}
	}
	return Piece{}, 0
}
