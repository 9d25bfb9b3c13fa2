package chart

import (
	"cmp"
	"iter"
	"slices"

	"daybook/api"
)

// node is an account in the tree, with those right below it by rising name.
type node struct {
	account api.Account
	kids    []*node
}

// place is where the account of a name stands, or would stand, among those right below.
func (n *node) place(name string) (int, bool) {
	return slices.BinarySearchFunc(n.kids, name, func(kid *node, name string) int {
		return cmp.Compare(kid.account.Name, name)
	})
}

// below gives all accounts below one, each ahead of those below it.
func (n *node) below() iter.Seq[*node] {
	return func(yield func(*node) bool) {
		for _, kid := range n.kids {
			if !yield(kid) {
				return
			}
			for deeper := range kid.below() {
				if !yield(deeper) {
					return
				}
			}
		}
	}
}

// seek is the node of the account of a name; nil: none was opened.
func (c *Chart) seek(name string) *node {
	if !Good(name) {
		return nil
	}
	n := &c.top
	for _, next := range slices.Backward(Path(name)) {
		i, there := n.place(next)
		if !there {
			return nil
		}
		n = n.kids[i]
	}
	return n
}

// put hangs a new account into the tree; its parent is there, or it is a root.
func (c *Chart) put(a api.Account) {
	parent := &c.top
	if above, below := Parent(a.Name); below {
		parent = c.seek(above)
	}
	i, _ := parent.place(a.Name)
	parent.kids = slices.Insert(parent.kids, i, &node{account: a})
}

// count is how many accounts were opened.
func (c *Chart) count() int {
	n := 0
	for range c.top.below() {
		n++
	}
	return n
}
