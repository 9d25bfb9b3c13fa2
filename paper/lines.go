package paper

import (
	"slices"
	"strings"

	"daybook/api"
	"daybook/cut"
	"daybook/day"
	"daybook/money"
	"daybook/names"
)

// lineSort is what a line is, by its first bytes.
type lineSort int

const (
	emptyLine lineSort = iota
	remarkLine
	legLine
	entryLine
)

// endsPosting tells whether no line of the sort stands within a posting over several lines.
func (s lineSort) endsPosting() bool { return s == emptyLine || s == entryLine }

const (
	lineEnd    = "\n"
	remarkMark = ";"
	postWord   = "post"
)

// look tells a line's sort and its place.
func look(line string) (lineSort, int) {
	said := strings.TrimLeft(line, cut.Blanks)
	place := len(line) - len(said)
	switch {
	case said == "":
		return emptyLine, place
	case strings.HasPrefix(said, remarkMark):
		return remarkLine, place
	case place > 0:
		return legLine, place
	}
	return entryLine, place
}

// head reads the first line of a posting over several lines; false, if the line is none.
func head(line string) (api.Event, bool) {
	l, _ := cut.Line(line)
	e := api.Event{Kind: api.KPost}
	if len(l) == 4 && l[3].Sort == cut.MemoSort {
		e.Memo = l[3].Text
		l = l[:3]
	}
	if len(l) != 3 || slices.ContainsFunc(l, isNoWord) || l[0].Text != postWord {
		return api.Event{}, false
	}
	on, why := day.Parse(l[1].Text)
	e.Day, e.Key = on, l[2].Text
	return e, why == api.OK && names.IsKey(e.Key) && names.IsMemo(e.Memo)
}

// leg reads a line of a posting; false, if it is none. An open leg's Amount is 0, which no other leg has.
func leg(line string, digits int) (api.Line, bool) {
	l, _ := cut.Line(line)
	if len(l) == 0 || slices.ContainsFunc(l, isNoWord) {
		return api.Line{}, false
	}
	read := api.Line{Account: l[0].Text}
	good := names.IsAccount(read.Account)
	l = l[1:]
	if len(l) > 0 && !isTagged(l[0]) {
		read.Amount, _ = money.Parse(l[0].Text, digits)
		good = good && read.Amount != 0 // it is 0, too, where the text is no amount's
		l = l[1:]
	}
	if len(l) > 0 && isTagged(l[0]) {
		read.Tag = strings.TrimPrefix(l[0].Text, cut.TagMark)
		good = good && read.Tag != "" && names.IsTag(read.Tag) // the empty tag has no word
		l = l[1:]
	}
	return read, good && len(l) == 0
}

func isNoWord(p cut.Piece) bool { return p.Sort != cut.WordSort }

func isTagged(p cut.Piece) bool { return strings.HasPrefix(p.Text, cut.TagMark) }

// posting: one over several lines, as far as it is read; head: its first line's number.
type posting struct {
	api.Event
	head int
}

// fill works out the amount of the first open leg. Where that is 0 or no amount, and of an open leg behind it, it stays 0, which makes the event no valid one.
func (p *posting) fill() {
	open := slices.IndexFunc(p.Lines, isOpen)
	if open >= 0 {
		sum, _ := money.Sum(amounts(p.Lines))
		p.Lines[open].Amount, _ = money.Neg(sum)
	}
}

func isOpen(l api.Line) bool { return l.Amount == 0 }

func amounts(lines []api.Line) []int64 {
	var l []int64
	for _, line := range lines {
		l = append(l, line.Amount)
	}
	return l
}
