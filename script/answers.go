package script

import (
	"strconv"
	"strings"

	"daybook/api"
)

const (
	rowMark   = "  "
	quoteMark = " |"
)

// answer is what the trace tells of a command: the words behind its line's number, and the lines below.
type answer struct {
	words []string
	lines []string
}

func good(words ...string) answer {
	return answer{words: append([]string{"ok"}, words...)}
}

// failed is an error's answer; the numbers stand behind the error's.
func failed(why api.Errno, behind ...int) answer {
	a := answer{words: []string{"error", strconv.Itoa(int(why))}}
	for _, n := range behind {
		a.words = append(a.words, strconv.Itoa(n))
	}
	return a
}

// closed is the answer of a command that has nothing to work on.
func closed() answer { return answer{words: []string{"closed"}} }

// done is the answer of a call that tells nothing but its error.
func done(why api.Errno) answer {
	if why != api.OK {
		return failed(why)
	}
	return good()
}

// counted is the answer of a call that tells one number.
func counted(n int, why api.Errno) answer {
	if why != api.OK {
		return failed(why)
	}
	return good(strconv.Itoa(n))
}

// listed tells how many there are, and each as a row of its words.
func listed[T any](l []T, why api.Errno, words func(T) []string) answer {
	if why != api.OK {
		return failed(why)
	}
	return good(strconv.Itoa(len(l))).withRows(rowsOf(l, words))
}

// quoted tells how many lines a text has, and each as it stands.
func quoted(text string, why api.Errno) answer {
	if why != api.OK {
		return failed(why)
	}
	lines := linesOf(text)
	a := good(strconv.Itoa(len(lines)))
	for _, line := range lines {
		a.lines = append(a.lines, quoteMark+line)
	}
	return a
}

// rowsOf is the words of each.
func rowsOf[T any](l []T, words func(T) []string) [][]string {
	rows := make([][]string, 0, len(l))
	for _, x := range l {
		rows = append(rows, words(x))
	}
	return rows
}

// withRows puts rows below an answer.
func (a answer) withRows(rows [][]string) answer {
	for _, words := range rows {
		a.lines = append(a.lines, rowMark+strings.Join(words, blank))
	}
	return a
}

// write puts the answer to the command of a line behind a trace.
func (a answer) write(trace *strings.Builder, number int) {
	trace.WriteString(strconv.Itoa(number) + blank + strings.Join(a.words, blank) + lineEnd)
	for _, line := range a.lines {
		trace.WriteString(line + lineEnd)
	}
}
