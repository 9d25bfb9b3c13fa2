package audit

import (
	"slices"
	"strconv"
	"strings"

	"daybook/api"
	"daybook/day"
)

const (
	lineEnd = "\n"
	blank   = " "
)

// The first words of answers.
const (
	okWord     = "ok"
	errorWord  = "error"
	closedWord = "closed"
)

// answer is what is told of a command: the words behind its line's number, and the lines below.
type answer struct {
	words []string
	rows  []string
}

// told is a command and the answer that the trace has to it.
type told struct {
	api.Command
	answer
	form  form
	place int // of its first line in the trace
}

// answersOf is the commands with their answers; false, if the trace has not one answer to each, in order.
func answersOf(commands []api.Command, trace string) ([]told, bool) {
	var l []told
	place := 0
	for line := range strings.Lines(trace) {
		place++
		line, ended := strings.CutSuffix(line, lineEnd)
		n := len(l)
		switch isRow := strings.HasPrefix(line, blank); {
		case !ended, isRow && n == 0, !isRow && n == len(commands):
			return nil, false
		case isRow:
			l[n-1].rows = append(l[n-1].rows, line)
		default:
			words, is := wordsOf(line, commands[n].Line)
			if !is {
				return nil, false
			}
			l = append(l, told{Command: commands[n], answer: answer{words: words}, form: formOf(commands[n].Word), place: place})
		}
	}
	return l, len(l) == len(commands)
}

// wordsOf is the words that a line of the trace has behind the number of a script's line; false, if it begins otherwise, or as no answer does.
func wordsOf(line string, number int) ([]string, bool) {
	behind, is := strings.CutPrefix(line, strconv.Itoa(number)+blank)
	if !is {
		return nil, false
	}
	words := strings.Split(behind, blank)
	return words, slices.Contains([]string{okWord, errorWord, closedWord}, words[0])
}

// is tells whether two answers are the same.
func (a answer) is(b answer) bool {
	return slices.Equal(a.words, b.words) && slices.Equal(a.rows, b.rows)
}

func (a answer) isOk() bool { return a.words[0] == okWord }

func (a answer) isClosed() bool { return a.words[0] == closedWord }

// isError tells whether it is this error's.
func (a answer) isError(why api.Errno) bool {
	return a.words[0] == errorWord && len(a.words) > 1 && a.words[1] == strconv.Itoa(int(why))
}

// number is the number that stands at a place of the words.
func (a answer) number(i int) int { return numberOf(a.words[i]) }

// isOkOf tells whether it is the good answer to such a command.
func (t told) isOkOf(word string) bool { return t.Word == word && t.isOk() }

// takes tells whether the command is one that brings events.
func (t told) takes() bool { return t.Word == submitWord || t.Word == importWord }

// taken is how many events an import tells of, whether it went well or not.
func (t told) taken() int {
	if t.isOk() {
		return t.number(1)
	}
	return t.number(2)
}

// day is the day whose date stands at a place of the command's words.
func (t told) day(i int) int {
	n, _ := day.Parse(t.Args[i])
	return n
}

// numberOf is a number's word as a number.
func numberOf(word string) int {
	n, _ := strconv.Atoi(word)
	return n
}
