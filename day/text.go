package day

import (
	"strconv"
	"strings"

	"daybook/api"
)

// The bytes of a day's text.
const (
	yearWidth = 4
	partWidth = 2
	textWidth = yearWidth + 1 + partWidth + 1 + partWidth
	monthAt   = yearWidth + 1
	dayAt     = monthAt + partWidth + 1
)

// Print is a day's text.
func Print(n int) (string, api.Errno) {
	if !isDay(n) {
		return "", api.ErrDay
	}
	d := date(n)
	return padded(d.Year, yearWidth) + "-" + padded(d.Month, partWidth) + "-" + padded(d.Day, partWidth), api.OK
}

// Parse reads a day's text.
func Parse(s string) (int, api.Errno) {
	if len(s) != textWidth || s[monthAt-1] != '-' || s[dayAt-1] != '-' {
		return 0, api.ErrDay
	}
	return From(Date{digits(s[:yearWidth]), digits(s[monthAt : monthAt+partWidth]), digits(s[dayAt:])})
}

// padded is a number with leading zeros up to a width.
func padded(n, width int) string {
	text := strconv.Itoa(n)
	return strings.Repeat("0", width-len(text)) + text
}

// digits is the number that a text of nothing but decimal digits writes (no sign, which strconv would take);
// of any other text 0, which no part of a date is.
func digits(text string) int {
	n := 0
	for i := range len(text) {
		if text[i] < '0' || text[i] > '9' {
			return 0
		}
		n = n*10 + int(text[i]-'0')
	}
	return n
}
