package sheet

import (
	"strconv"

	"daybook/api"
	"daybook/money"
)

// typeFault is ErrTyping of a number that is no type of values.
func typeFault(valueType int) api.Errno {
	switch valueType {
	case api.TNum, api.TText, api.TDay, api.TBool, api.TMoney:
		return api.OK
	}
	return api.ErrTyping
}

// cellsFault is why a row can't stand under types.
func cellsFault(row []api.Cell, types []int) api.Errno {
	if len(row) != len(types) {
		return api.ErrTyping
	}
	for i, c := range row {
		if e := cellFault(c, types[i]); e != api.OK {
			return e
		}
	}
	return api.OK
}

// cellFault is why a cell can't be of a type.
func cellFault(c api.Cell, valueType int) api.Errno {
	if c.Type != valueType {
		return api.ErrTyping
	}
	switch {
	case c.Type == api.TBool && c.Num != 0 && c.Num != 1:
		return api.ErrTyping
	case c.Type == api.TText && !isPlain(c.Text):
		return api.ErrTyping
	case c.Type == api.TDay && !isDay(c.Num):
		return api.ErrDay
	case c.Type == api.TMoney:
		return money.Check(c.Num)
	}
	return api.OK
}

// isPlain tells whether a text can stand in a line.
func isPlain(s string) bool {
	for i := range len(s) {
		if s[i] < ' ' || s[i] > '~' {
			return false
		}
	}
	return true
}

// sidesOf is the columns' sides by their types: what is counted stands right.
func sidesOf(types []int) []side {
	sides := make([]side, len(types))
	for i, t := range types {
		if t == api.TNum || t == api.TMoney {
			sides[i] = right
		}
	}
	return sides
}

// columns is how so many columns of cells are set.
func (w texts) columns(n int) []func([]api.Cell) string {
	columns := make([]func([]api.Cell) string, n)
	for i := range columns {
		columns[i] = func(row []api.Cell) string { return w.cell(row[i]) }
	}
	return columns
}

// cell is the text of a cell that can be.
func (w texts) cell(c api.Cell) string {
	switch c.Type {
	case api.TText:
		return c.Text
	case api.TDay:
		return dayText(int(c.Num))
	case api.TBool:
		return strconv.FormatBool(c.Num == 1)
	case api.TMoney:
		return w.amount(c.Num)
	}
	return strconv.FormatInt(c.Num, 10)
}
