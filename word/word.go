// Package word: which texts are words, and which words are numbers, in a script and in its trace: see doc/19-script.md, 19.1.
package word

import "strings"

const (
	digits     = "0123456789"
	mostDigits = 10 // of a number
)

// Is tells whether a text is a word.
func Is(s string) bool {
	for i := range len(s) {
		if s[i] <= ' ' || s[i] > '~' {
			return false
		}
	}
	return s != ""
}

// IsNumber tells whether a text is a number in its one form.
func IsNumber(s string) bool {
	size := strings.TrimPrefix(s, "-")
	if size == "" || len(size) > mostDigits || strings.Trim(size, digits) != "" {
		return false
	}
	return s == "0" || size[0] != '0'
}
