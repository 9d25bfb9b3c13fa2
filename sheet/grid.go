package sheet

import "strings"

const (
	blank   = " "
	gap     = 2 // blanks between two cells
	lineEnd = "\n"
)

// side is where a cell stands in its column.
type side int

const (
	left side = iota
	right
)

// grid is rows of cells, with a side for each column.
type grid struct {
	sides []side
	rows  [][]string
}

func newGrid(sides ...side) *grid { return &grid{sides: sides} }

// add puts a row behind the others. It may have fewer cells than there are columns.
func (g *grid) add(cells ...string) { g.rows = append(g.rows, cells) }

// set puts a row for each of a list behind the others: each column tells which text a thing has in it.
func set[T any](g *grid, l []T, columns ...func(T) string) {
	for _, x := range l {
		cells := make([]string, len(columns))
		for i, text := range columns {
			cells[i] = text(x)
		}
		g.add(cells...)
	}
}

// text is the rows as lines.
func (g *grid) text() string {
	widths := g.widths()
	var text []byte
	for _, row := range g.rows {
		text = append(g.appendRow(text, row, widths), lineEnd...)
	}
	return string(text)
}

// widths is how long the longest cell of each column is.
func (g *grid) widths() []int {
	widths := make([]int, len(g.sides))
	for _, row := range g.rows {
		for i, cell := range row {
			widths[i] = max(widths[i], len(cell))
		}
	}
	return widths
}

// appendRow sets a row's cells. Blanks are owed until something stands behind them, so that none come to a line's end.
func (g *grid) appendRow(text []byte, row []string, widths []int) []byte {
	owed := 0
	for i, cell := range row {
		if i > 0 {
			owed += gap
		}
		ahead, behind := 0, widths[i]-len(cell)
		if g.sides[i] == right {
			ahead, behind = behind, ahead
		}
		owed += ahead
		seen := strings.TrimRight(cell, blank)
		if seen != "" {
			text = append(text, strings.Repeat(blank, owed)...)
			text = append(text, seen...)
			owed = 0
		}
		owed += len(cell) - len(seen) + behind
	}
	return text
}
