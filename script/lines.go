package script

import (
	"slices"
	"strings"

	"daybook/api"
)

const (
	lineEnd     = "\n"
	blank       = " "
	remarkMark  = "#"
	importWord  = "import"
	journalsEnd = "end"
)

// section is a line that has an answer in the trace: the first one, or a command; an import with its journal's lines.
type section struct {
	number  int
	line    string
	journal []string
	endless bool // a journal that no end ends
}

// linesOf is a text's lines, without their ends. Behind the last end there is none.
func linesOf(text string) []string {
	lines := strings.Split(text, lineEnd)
	if last := len(lines) - 1; lines[last] == "" {
		lines = lines[:last]
	}
	return lines
}

// sectionsOf is a script's lines, without those that are passed over.
func sectionsOf(lines []string) []section {
	var l []section
	for i := 0; i < len(lines); i++ {
		s := section{number: i + 1, line: lines[i]}
		if i > 0 && isPassedOver(s.line) {
			continue
		}
		if i > 0 && s.line == importWord {
			s.journal, s.endless = journalOf(lines[i+1:])
			i += len(s.journal) + 1
		}
		l = append(l, s)
	}
	return l
}

// isPassedOver tells whether a line is empty or a remark.
func isPassedOver(line string) bool {
	return line == "" || strings.HasPrefix(line, remarkMark)
}

// journalOf is the lines up to an end, and whether there is none.
func journalOf(lines []string) (journal []string, endless bool) {
	n := slices.Index(lines, journalsEnd)
	if n < 0 {
		return lines, true
	}
	return lines[:n], false
}

// strangeByte is the fault of the first byte that no text has; nil, if there is none.
func strangeByte(lines []string) *api.Fault {
	for i, line := range lines {
		for at := range len(line) {
			if line[at] < ' ' || line[at] > '~' {
				return &api.Fault{Line: i + 1, At: at, Why: api.ErrScript}
			}
		}
	}
	return nil
}

// longLine is the fault of the first line that is too long; nil, if there is none.
func longLine(lines []string) *api.Fault {
	for i, line := range lines {
		if len(line) > api.MaxLine {
			return &api.Fault{Line: i + 1, Why: api.ErrLong}
		}
	}
	return nil
}

// oneTooMany is the fault of the first command that is too many; nil, if there is none. The first line is no command.
func oneTooMany(l []section) *api.Fault {
	if len(l) <= 1+api.MaxOps {
		return nil
	}
	return &api.Fault{Line: l[1+api.MaxOps].number, Why: api.ErrMany}
}

// firstMissing is the fault of a text without lines; nil of others.
func firstMissing(l []section) *api.Fault {
	if len(l) > 0 {
		return nil
	}
	return &api.Fault{Line: 1, Why: api.ErrScript}
}
