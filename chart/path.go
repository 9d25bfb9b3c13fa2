package chart

import (
	"iter"
	"slices"
	"strings"

	"daybook/names"
)

// Good tells whether a text is an account's name.
func Good(name string) bool { return names.IsAccount(name) }

// Parent is the name of the account above; false: it is a root, or no account's name.
func Parent(name string) (string, bool) {
	if !Good(name) || names.IsRoot(name) {
		return "", false
	}
	return name[:strings.LastIndex(name, names.Between)], true
}

// Root is the name of the root above (its own, if it is one).
func Root(name string) string {
	root := ""
	for up := range upwards(name) {
		root = up
	}
	return root
}

// Under tells whether an account is another one, or below it.
func Under(name, top string) bool {
	for up := range upwards(name) {
		if up == top {
			return true
		}
	}
	return false
}

// Path is the account's name and those of all above it, itself first.
func Path(name string) []string { return slices.Collect(upwards(name)) }

// upwards gives an account's name, its parent's, and so on up to its root's; nothing of a text that is no account's name.
func upwards(name string) iter.Seq[string] {
	return func(yield func(string) bool) {
		for up, more := name, Good(name); more && yield(up); up, more = Parent(up) {
		}
	}
}
