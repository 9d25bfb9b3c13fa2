package sums

import (
	"cmp"
	"iter"
	"maps"
	"slices"

	"daybook/chart"
)

// adder is a map that adds. It has no key whose sum is 0; its zero value has none at all.
type adder[K cmp.Ordered, N int | int64] struct {
	sums map[K]N
}

// add adds to the sum of a key.
func (a *adder[K, N]) add(key K, n N) {
	if a.sums == nil {
		a.sums = map[K]N{}
	}
	a.sums[key] += n
	if a.sums[key] == 0 {
		delete(a.sums, key)
	}
}

// of is the sum of a key.
func (a *adder[K, N]) of(key K) N { return a.sums[key] }

// rising is the keys whose sum is not 0, in their order.
func (a *adder[K, N]) rising() []K { return slices.Sorted(maps.Keys(a.sums)) }

// upwards gives an account's name, its parent's, and so on up to its root's.
func upwards(name string) iter.Seq[string] {
	return func(yield func(string) bool) {
		for up, more := name, true; more && yield(up); up, more = chart.Parent(up) {
		}
	}
}
