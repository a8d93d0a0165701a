package opt

import "hauberk/api"

// made is how a number was made, at one place: two that were made alike are the same.
type made struct {
	op   int
	n    uint64
	a, b int
	name string
}

// Ways in which numbers are made, beside the instructions that make the same of the same.
const (
	fresh  = -1 - iota // by the line a (none: ahead of all), in the register b
	joined             // where ways come together ahead of the block a, in the register b
	moved              // it is the number a, and n
	both               // of a and b: it is another one where one of them is
)

// numbers are those that come up in a function, by how they were made.
type numbers struct {
	known map[made]int
	made  []made
}

func newNumbers() *numbers { return &numbers{known: map[made]int{}} }

// of is the number that was made so.
func (n *numbers) of(m made) int {
	k, ok := n.known[m]
	if !ok {
		k = len(n.made)
		n.known[m] = k
		n.made = append(n.made, m)
	}
	return k
}

func (n *numbers) constant(c uint64) int { return n.of(made{op: api.MConst, n: c}) }

// told tells which constant a number is, if it is one.
func (n *numbers) told(k int) (uint64, bool) { return n.made[k].n, n.made[k].op == api.MConst }

// split is a number as another one, and how far it is from that.
func (n *numbers) split(k int) (int, uint64) {
	if m := n.made[k]; m.op == moved {
		return m.a, m.n
	}
	return k, 0
}

// plus is a number, and so much.
func (n *numbers) plus(k int, c uint64) int {
	root, off := n.split(k)
	if off+c == 0 {
		return root
	}
	return n.of(made{op: moved, n: off + c, a: root})
}
