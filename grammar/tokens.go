package grammar

import (
	"slices"
	"strings"

	"daybook/api"
	"daybook/day"
	"daybook/money"
)

// token: with neither a sign nor a leaf it is the text's end, or what is no token, and no rule takes it.
type token struct {
	at   int
	sign string   // a key or a mark, as it stands
	leaf api.Node // of all others: what an atom of it is read as
}

// scanner cuts a text into tokens, from the left.
type scanner struct {
	text string
	at   int
}

// next cuts off a token. It does not pass over what is none.
func (s *scanner) next() token {
	left := strings.TrimLeft(s.text[s.at:], blanks)
	s.at = len(s.text) - len(left)
	t, size := first(left)
	t.at = s.at
	s.at += size
	return t
}

// first is the token at the beginning of a text, and how many bytes it has: 0, if there is none.
func first(s string) (token, int) {
	switch {
	case s == "":
		return token{}, 0
	case isSmall(s[0]):
		return wordToken(s)
	case beginsLikeDay(s):
		return dayToken(s)
	case isDigit(s[0]):
		return numberToken(s)
	case s[0] == quote:
		return textToken(s)
	}
	return markToken(s)
}

func wordToken(s string) (token, int) {
	size := run(s, isSmall)
	word := s[:size]
	if !endsAt(s, size) {
		return token{}, 0
	}
	if slices.Contains(strings.Fields(keys), word) {
		return token{sign: word}, size
	}
	if field := slices.Index(fieldNames(), word); field >= 0 {
		return leafToken(api.Node{Op: api.QField, Field: field}), size
	}
	if truth := slices.Index(truths(), word); truth >= 0 {
		return leafToken(api.Node{Op: api.QBool, Num: int64(truth)}), size
	}
	return token{}, 0
}

// beginsLikeDay tells whether a day must stand at the beginning of a text, and no number.
func beginsLikeDay(s string) bool {
	if len(s) < len(dayShape) {
		return false
	}
	for i := range len(dayShape) {
		if s[i] != dayShape[i] && !(isDigit(s[i]) && isDigit(dayShape[i])) {
			return false
		}
	}
	return run(s[len(dayShape):], isDigit) == 0
}

func dayToken(s string) (token, int) {
	size := len(dayShape)
	n, why := day.Parse(s[:size])
	if why != api.OK || !endsAt(s, size) {
		return token{}, 0
	}
	return leafToken(api.Node{Op: api.QDay, Num: int64(n)}), size
}

func numberToken(s string) (token, int) {
	size := run(s, isDigit)
	// All leading zeros but one are left out: an amount's text has only so many bytes.
	n, why := money.Parse("0"+strings.TrimLeft(s[:size], "0"), 0)
	if why != api.OK || !endsAt(s, size) {
		return token{}, 0
	}
	return leafToken(api.Node{Op: api.QNum, Num: n}), size
}

func textToken(s string) (token, int) {
	var said []byte
	for at := 1; at < len(s) && inText(s[at]); at++ {
		if s[at] == quote {
			if at+1 == len(s) || s[at+1] != quote {
				return leafToken(api.Node{Op: api.QText, Text: string(said)}), at + 1
			}
			at++
		}
		said = append(said, s[at])
	}
	return token{}, 0
}

func markToken(s string) (token, int) {
	for _, mark := range strings.Fields(marks) {
		if strings.HasPrefix(s, mark) {
			return token{sign: mark}, len(mark)
		}
	}
	return token{}, 0
}

func leafToken(n api.Node) token {
	n.Left, n.Right = none, none
	return token{leaf: n}
}

// run is how many bytes of one sort a text begins with.
func run(s string, sort func(byte) bool) int {
	n := 0
	for n < len(s) && sort(s[n]) {
		n++
	}
	return n
}

// endsAt tells whether a word, a number or a day may end at a place of a text.
func endsAt(s string, at int) bool {
	return at == len(s) || !isSmall(s[at]) && !isDigit(s[at])
}
