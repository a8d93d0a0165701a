package check

import (
	"slices"
	"strconv"

	"hauberk/api"
)

// The kinds of what a name means.
const (
	aVariable = 1
	aFunction = 2
	freeing   = 3 // free, of which the param may be of many types
)

// meaning is what a name means: answer is what its use is a value of (of an array: an element).
type meaning struct {
	kind   int
	answer api.Type
	params []api.Type
	length int
	name   string // of a variable: the one in the program that was checked
}

// spot is where a name stands. No two blocks have one number; that of the top is 0.
type spot struct {
	block int
	name  string
}

// names are all that were met so far: those of blocks that have ended stay, where no open block sees them.
type names struct {
	known  map[spot]meaning
	open   []int // the blocks that have begun and not ended, the innermost last
	blocks int   // how many have begun
	locals int   // how many params and locals the function has so far
}

// newNames are those that are known from the beginning: they stand at the top too, since no others there may have their names.
func newNames() names {
	n := names{known: map[spot]meaning{}}
	n.enter()
	number := []api.Type{plain(api.Int)}
	n.know("putchar", meaning{kind: aFunction, params: number})
	n.know("getchar", meaning{kind: aFunction, answer: plain(api.Int)})
	n.know("exit", meaning{kind: aFunction, params: number})
	n.know("free", meaning{kind: freeing})
	return n
}

// enter begins a block.
func (n *names) enter() {
	n.open = append(n.open, n.blocks)
	n.blocks++
}

// leave ends the innermost block.
func (n *names) leave() { n.open = n.open[:len(n.open)-1] }

// outward goes through the open blocks, from the innermost to the top.
func (n *names) outward(yield func(int) bool) {
	for _, block := range slices.Backward(n.open) {
		if !yield(block) {
			return
		}
	}
}

// find is what a name means; false, if it isn't known.
func (n *names) find(name string) (meaning, bool) {
	for block := range n.outward {
		if m, ok := n.known[spot{block, name}]; ok {
			return m, true
		}
	}
	return meaning{}, false
}

// here is a name's spot in the innermost block.
func (n *names) here(name string) spot { return spot{n.open[len(n.open)-1], name} }

// has tells whether the innermost block has a name.
func (n *names) has(name string) bool {
	_, ok := n.known[n.here(name)]
	return ok
}

func (n *names) know(name string, m meaning) { n.known[n.here(name)] = m }

// local makes a param or a local known, and answers it by its new name.
func (n *names) local(v api.Var) api.Var {
	m := meaning{kind: aVariable, answer: v.Type, length: v.Len, name: "$" + strconv.Itoa(n.locals)}
	n.know(v.Name, m)
	n.locals++
	v.Name = m.name
	return v
}
