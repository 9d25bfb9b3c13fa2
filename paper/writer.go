package paper

import (
	"strings"

	"daybook/api"
	"daybook/cut"
	"daybook/day"
	"daybook/event"
	"daybook/money"
)

// gap stands ahead of each column of a posting's lines.
const gap = "  "

// written is the lines of a valid event.
func written(e api.Event, digits int) string {
	if e.Kind == api.KPost {
		return headOf(e) + legsOf(e.Lines, digits)
	}
	line, _ := event.Print(e, digits)
	return line + lineEnd
}

func headOf(e api.Event) string {
	on, _ := day.Print(e.Day)
	head := postWord + " " + on + " " + e.Key
	if e.Memo != "" {
		head += " " + cut.Quote + e.Memo + cut.Quote
	}
	return head + lineEnd
}

func legsOf(lines []api.Line, digits int) string {
	texts := make([]string, len(lines))
	longestAccount, longestAmount := 0, 0
	for i, l := range lines {
		texts[i], _ = money.Print(l.Amount, digits)
		longestAccount = max(longestAccount, len(l.Account))
		longestAmount = max(longestAmount, len(texts[i]))
	}
	legs := ""
	for i, l := range lines {
		legs += gap + l.Account + spaces(longestAccount-len(l.Account))
		legs += gap + spaces(longestAmount-len(texts[i])) + texts[i]
		if l.Tag != "" {
			legs += " " + cut.TagMark + l.Tag
		}
		legs += lineEnd
	}
	return legs
}

func spaces(n int) string { return strings.Repeat(" ", n) }
