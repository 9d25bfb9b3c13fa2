// Package names: which texts can be an account's name, a key, a tag or a memo: see DOC.md, "Words".
package names

import (
	"strings"

	"daybook/api"
)

// Between stands between two parts of an account's name.
const Between = ":"

// IsAccount tells whether a text is an account's name.
func IsAccount(s string) bool {
	if strings.Count(s, Between) >= api.MaxDepth {
		return false
	}
	for _, part := range strings.Split(s, Between) {
		if !isPart(part) {
			return false
		}
	}
	return true
}

// IsRoot tells whether an account's name is a root's.
func IsRoot(name string) bool { return !strings.Contains(name, Between) }

// IsKey tells whether a text is a key.
func IsKey(s string) bool {
	return s != "" && len(s) <= api.MaxKey && all(s, inKey)
}

// IsTag tells whether a text is a tag, the empty one too.
func IsTag(s string) bool {
	return s == "" || len(s) <= api.MaxTag && isLower(s[0]) && all(s[1:], inTag)
}

// IsMemo tells whether a text is a memo.
func IsMemo(s string) bool { return len(s) <= api.MaxMemo && all(s, inMemo) }

// isPart tells whether a text is a part of an account's name.
func isPart(s string) bool {
	return s != "" && len(s) <= api.MaxPart && isUpper(s[0]) && all(s[1:], inPart)
}

// all tells whether each byte of a text is of one sort.
func all(s string, sort func(byte) bool) bool {
	for i := range len(s) {
		if !sort(s[i]) {
			return false
		}
	}
	return true
}

func isUpper(b byte) bool { return b >= 'A' && b <= 'Z' }
func isLower(b byte) bool { return b >= 'a' && b <= 'z' }
func isDigit(b byte) bool { return b >= '0' && b <= '9' }

func inPart(b byte) bool { return isUpper(b) || inTag(b) }
func inTag(b byte) bool  { return isLower(b) || isDigit(b) || b == '-' }
func inKey(b byte) bool  { return inPart(b) || b == '_' || b == '.' }
func inMemo(b byte) bool { return b >= ' ' && b <= '~' && b != '"' }
