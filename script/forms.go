package script

import (
	"daybook/api"
	"daybook/day"
	"daybook/word"
)

// The sorts of words that a form wants.
const (
	anyWord = 'w'
	aNumber = 'n'
	aDate   = 'd'
	aSheet  = 's' // what is wanted behind it hangs on which one it is
)

const (
	firstWord = "daybook"
	sheetWord = "sheet"
	mostKeeps = 64 // numbers of a crash
)

// form is how a line goes on behind its first word.
type form struct {
	word  string
	wants string // the sorts of the words that must follow
	more  int    // so many numbers may follow them
	text  bool   // all that follows is a TEXT
}

// forms is a row for each command, and one for each sheet, under both of its words.
var forms = [...]form{
	{word: "submit", text: true},
	{word: "len"},
	{word: "event", wants: "n"},
	{word: "trial"},
	{word: "rollup", wants: "w"},
	{word: "daily", wants: "wdd"},
	{word: "aged", wants: "wd"},
	{word: "open", wants: "wd"},
	{word: "accounts"},
	{word: "left", wants: "w"},
	{word: "query", text: true},
	{word: "export"},
	{word: importWord},
	{word: sheetWord, wants: "s"},
	{word: "sheet trial"},
	{word: "sheet tree"},
	{word: "sheet income", wants: "dd"},
	{word: "sheet position", wants: "d"},
	{word: "sheet statement", wants: "wd"},
	{word: "snapshot"},
	{word: "trim", wants: "n"},
	{word: "rebuild", wants: "n"},
	{word: "status"},
	{word: "fuse", wants: "n"},
	{word: "free"},
	{word: "files"},
	{word: "crash", more: mostKeeps},
	{word: "reopen"},
	{word: "lose", wants: "n"},
	{word: "turn", wants: "nnn"},
}

// formOf is the form of a command, or of a sheet; false, if there is none of that word.
func formOf(word string) (form, bool) {
	for _, f := range forms {
		if f.word == word {
			return f, true
		}
	}
	return form{}, false
}

// sheetOf is the form of a sheet.
func sheetOf(word string) (form, bool) { return formOf(sheetWord + blank + word) }

// fits tells whether a word is of a sort.
func fits(w string, sort byte) bool {
	switch sort {
	case aNumber:
		return word.IsNumber(w)
	case aDate:
		_, why := day.Parse(w)
		return why == api.OK
	case aSheet:
		_, is := sheetOf(w)
		return is
	}
	return true
}
