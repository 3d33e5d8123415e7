// Package chain is layer 7, linked lists over an array: see shared/doc/07-chain.md.
package chain

import (
	"iter"
	"slices"
)

const (
	maxNodes = 4096
	maxLists = 256
)

// none stands where there is no node or no list.
const none = -1

// ends is a list; first and last mean nothing while count is 0.
type ends struct{ first, last, count int }

// Chains are lists in one array of links: next holds the node behind each node,
// where the list that contains it.
type Chains struct {
	next, where []int
	lists       []ends
}

// New returns empty lists, or nil (P7.1).
func New(nodes, lists int) *Chains {
	if nodes < 1 || nodes > maxNodes || lists < 1 || lists > maxLists {
		return nil
	}
	return &Chains{
		next:  slices.Repeat([]int{none}, nodes),
		where: slices.Repeat([]int{none}, nodes),
		lists: make([]ends, lists),
	}
}

func (c *Chains) hasList(list int) bool { return c != nil && list >= 0 && list < len(c.lists) }

func (c *Chains) hasNode(node int) bool { return c != nil && node >= 0 && node < len(c.next) }

// Push appends a node that is in no list (P7.1).
func (c *Chains) Push(list, node int) bool {
	if !c.hasList(list) || !c.hasNode(node) || c.where[node] != none {
		return false
	}
	c.where[node] = list
	c.attach(list, ends{first: node, last: node, count: 1})
	return true
}

// attach links nodes that are linked among themselves to the end of a list.
func (c *Chains) attach(list int, more ends) {
	e := &c.lists[list]
	if e.count == 0 {
		*e = more
		return
	}
	c.next[e.last] = more.first
	e.last = more.last
	e.count += more.count
}

// First returns the first node of the list (P7.1).
func (c *Chains) First(list int) (int, bool) {
	if c.Len(list) == 0 {
		return 0, false
	}
	return c.lists[list].first, true
}

// Pop removes the first node of the list and returns it (P7.1).
func (c *Chains) Pop(list int) (int, bool) {
	node, ok := c.First(list)
	if !ok {
		return 0, false
	}
	e := &c.lists[list]
	e.first = c.next[node]
	e.count--
	c.next[node], c.where[node] = none, none
	return node, true
}

// Len returns the number of nodes in the list (P7.2).
func (c *Chains) Len(list int) int {
	if !c.hasList(list) {
		return 0
	}
	return c.lists[list].count
}

// Where returns the list that contains the node (P7.2).
func (c *Chains) Where(node int) (int, bool) {
	if !c.hasNode(node) || c.where[node] == none {
		return 0, false
	}
	return c.where[node], true
}

// Join appends the nodes of list from to list to (P7.2).
func (c *Chains) Join(to, from int) bool {
	if !c.hasList(to) || !c.hasList(from) || to == from {
		return false
	}
	if c.Len(from) == 0 {
		return true
	}
	for node := range c.All(from) {
		c.where[node] = to
	}
	c.attach(to, c.lists[from])
	c.lists[from] = ends{}
	return true
}

// All returns an iterator over the nodes of the list (P7.2).
func (c *Chains) All(list int) iter.Seq[int] {
	return func(yield func(int) bool) {
		// Listed ahead of the first yield: the loop is promised the state at its beginning.
		for _, node := range c.nodes(list) {
			if !yield(node) {
				return
			}
		}
	}
}

func (c *Chains) nodes(list int) []int {
	node, ok := c.First(list)
	if !ok {
		return nil
	}
	nodes := make([]int, 0, c.Len(list))
	for ; node != none; node = c.next[node] {
		nodes = append(nodes, node)
	}
	return nodes
}

// Copy returns independent lists in the same state (P7.2).
func (c *Chains) Copy() *Chains {
	if c == nil {
		return nil
	}
	return &Chains{
		next:  slices.Clone(c.next),
		where: slices.Clone(c.where),
		lists: slices.Clone(c.lists),
	}
}
