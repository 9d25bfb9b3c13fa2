package script

import (
	"strings"

	"daybook/api"
	"daybook/word"
)

// reader takes the words of a line, from the left.
type reader struct {
	line  string
	at    int // the place at which the next word is looked for
	words []string
}

// command reads a line by its form.
func (s section) command() (api.Command, *api.Fault) {
	if s.endless {
		return api.Command{}, &api.Fault{Line: s.number, Why: api.ErrScript}
	}
	r := reader{line: s.line}
	f, is := r.begin(s.number == 1)
	if is && f.text {
		return api.Command{Line: s.number, Word: f.word, Text: r.rest()}, nil
	}
	if !is || !r.goOn(f) || !r.isAtEnd() {
		return api.Command{}, &api.Fault{Line: s.number, At: r.at, Why: api.ErrScript}
	}
	return api.Command{Line: s.number, Word: f.word, Args: r.words[1:], Text: joined(s.journal)}, nil
}

// begin takes the first word; false, if no form begins so.
func (r *reader) begin(isFirstLine bool) (form, bool) {
	word := r.next()
	f, is := formOf(word)
	if isFirstLine {
		f, is = form{word: firstWord, wants: "nnn"}, word == firstWord
	}
	if is {
		r.take(word)
	}
	return f, is
}

// goOn takes the words that a form wants, and those that it lets follow; false, if one is missing or does not fit.
func (r *reader) goOn(f form) bool {
	for i := range len(f.wants) {
		word := r.next()
		if word == "" || !fits(word, f.wants[i]) {
			return false
		}
		r.take(word)
		if f.wants[i] == aSheet {
			sheet, _ := sheetOf(word)
			return r.goOn(sheet)
		}
	}
	for range f.more {
		keep := r.next()
		if !word.IsNumber(keep) {
			break
		}
		r.take(keep)
	}
	return true
}

// next is the word that stands at the reader's place; empty, if none does.
func (r *reader) next() string {
	if r.at >= len(r.line) {
		return ""
	}
	word, _, _ := strings.Cut(r.line[r.at:], blank)
	return word
}

// take goes on behind a word, and the blank that follows it or would.
func (r *reader) take(word string) {
	r.words = append(r.words, word)
	r.at += len(word) + len(blank)
}

// isAtEnd tells whether the line has ended with the last word, without a blank behind it.
func (r *reader) isAtEnd() bool { return r.at > len(r.line) }

// rest is all that the line has from the reader's place on.
func (r *reader) rest() string { return r.line[min(r.at, len(r.line)):] }

// joined is lines with their ends.
func joined(lines []string) string {
	if len(lines) == 0 {
		return ""
	}
	return strings.Join(lines, lineEnd) + lineEnd
}
