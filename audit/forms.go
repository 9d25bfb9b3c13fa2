package audit

import (
	"strings"

	"daybook/api"
	"daybook/day"
	"daybook/money"
	"daybook/word"
)

// The sorts of words that an answer has.
const (
	aNumber  = 'n'
	aCause   = 'e' // an error's number
	aWord    = 'w'
	anAmount = 'a'
	aDate    = 'd'
	aFlag    = 'f'
	aStand   = 's' // of an account: open or closed
)

// Rows of other makes than words of their sorts.
const (
	quotes = "|" // lines of a text
	cells  = "*" // a query's
)

const (
	rowMark   = "  "
	quoteMark = " |"
)

// The commands that are named in several places.
const (
	firstWord   = "daybook"
	submitWord  = "submit"
	lenWord     = "len"
	eventWord   = "event"
	importWord  = "import"
	rebuildWord = "rebuild"
	statusWord  = "status"
	reopenWord  = "reopen"
)

// form is what a command works on, and how its answers are made.
type form struct {
	word     string
	onLedger bool   // else on the disk
	asks     bool   // it must be answered alike until something changes
	tells    string // the sorts of the words behind ok; where there are rows the first one counts them
	below    string // the sorts of a row's words, or another make of rows; empty: there are none
	behind   string // the sorts of the words behind an error's number
}

// forms is a row for each command, and one for the first line.
var forms = [...]form{
	{word: firstWord, tells: "n"},
	{word: submitWord, onLedger: true, tells: "n"},
	{word: lenWord, onLedger: true, asks: true, tells: "n"},
	{word: eventWord, onLedger: true, asks: true},
	{word: "trial", onLedger: true, asks: true, tells: "n", below: "waa"},
	{word: "rollup", onLedger: true, asks: true, tells: "aa"},
	{word: "daily", onLedger: true, asks: true, tells: "n", below: "daa"},
	{word: "aged", onLedger: true, asks: true, tells: "aaaaa"},
	{word: "open", onLedger: true, asks: true, tells: "n", below: "wdda"},
	{word: "accounts", onLedger: true, asks: true, tells: "n", below: "wnds"},
	{word: "left", onLedger: true, asks: true, tells: "a"},
	{word: "query", onLedger: true, asks: true, tells: "nn", below: cells, behind: "n"},
	{word: "export", onLedger: true, asks: true, tells: "n", below: quotes},
	{word: importWord, onLedger: true, tells: "n", behind: "nnn"},
	{word: "sheet", onLedger: true, asks: true, tells: "n", below: quotes},
	{word: "snapshot", onLedger: true},
	{word: "trim", onLedger: true, tells: "n"},
	{word: rebuildWord, onLedger: true, tells: "nfnn"},
	{word: statusWord, onLedger: true, tells: "nfnnf"},
	{word: "fuse"},
	{word: "free", tells: "n"},
	{word: "files", tells: "n", below: "wnn"},
	{word: "crash"},
	{word: reopenWord, tells: "n"},
	{word: "lose", tells: "w"},
	{word: "turn", tells: "w"},
}

// formOf is the form of a command's answers.
func formOf(word string) form {
	for _, f := range forms {
		if f.word == word {
			return f
		}
	}
	return form{}
}

// breaksForm is rule 1.
func (m *machine) breaksForm(t told) bool {
	switch t.words[0] {
	case closedWord:
		return len(t.words) > 1 || len(t.rows) > 0
	case errorWord:
		return len(t.rows) > 0 || !m.fitAll(t.words[1:], string(aCause)+t.form.behind)
	}
	// What stands behind the ok of an event is the event's line, with blanks where it has them.
	if t.Word != eventWord && !m.fitAll(t.words[1:], t.form.tells) {
		return true
	}
	return !m.fitRows(t)
}

// fitRows tells whether there are as many rows as the answer counts, all of its form.
func (m *machine) fitRows(t told) bool {
	if t.form.below == "" {
		return len(t.rows) == 0
	}
	for _, row := range t.rows {
		if !m.fitRow(row, t.form.below) {
			return false
		}
	}
	return len(t.rows) == t.number(1)
}

func (m *machine) fitRow(row, below string) bool {
	if below == quotes {
		return strings.HasPrefix(row, quoteMark)
	}
	behind, is := strings.CutPrefix(row, rowMark)
	return is && (below == cells || m.fitAll(strings.Split(behind, blank), below))
}

// fitAll tells whether there is a word of each sort, in order, and no other.
func (m *machine) fitAll(words []string, sorts string) bool {
	if len(words) != len(sorts) {
		return false
	}
	for i, w := range words {
		if !m.fits(w, sorts[i]) {
			return false
		}
	}
	return true
}

// fits tells whether a word is of a sort.
func (m *machine) fits(w string, sort byte) bool {
	switch sort {
	case aNumber:
		return word.IsNumber(w)
	case aCause:
		return word.IsNumber(w) && numberOf(w) >= 1
	case aWord:
		return word.Is(w)
	case anAmount:
		return m.isAmount(w)
	case aDate:
		_, why := day.Parse(w)
		return why == api.OK
	case aFlag:
		return w == "0" || w == "1"
	}
	return w == openStand || w == closedStand
}

// isAmount tells whether a word is an amount's text, in its one form.
func (m *machine) isAmount(w string) bool {
	a, why := money.Parse(w, m.digits)
	if why != api.OK {
		return false
	}
	printed, _ := money.Print(a, m.digits)
	return printed == w
}
