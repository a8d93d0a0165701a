package opt

import (
	"sort"

	"hauberk/ins"
)

// needs goes back from all that does more than make numbers to what makes the numbers for it.
type needs struct {
	*graph
	code    []line
	writers [][]int // the lines that write each register, rising
	lines   []bool  // which ones are needed
	begins  []set   // which registers are, where each block begins
	rest    []need
}

// need is of what a register has ahead of a line, or at the end of a block.
type need struct{ block, at, register int }

func newNeeds(g *graph, code []line, registers int) *needs {
	n := &needs{graph: g, code: code, writers: make([][]int, registers), lines: make([]bool, len(code)), begins: make([]set, len(g.blocks))}
	for at := range code {
		if !code[at].gone {
			for _, r := range ins.Writes(&code[at].Ins) {
				n.writers[r] = append(n.writers[r], at)
			}
		}
	}
	for _, b := range g.order {
		for at := g.blocks[b].from; at < g.blocks[b].to; at++ {
			if !code[at].gone && !code[at].makes() {
				n.ask(b, at)
			}
		}
	}
	for len(n.rest) > 0 {
		last := len(n.rest) - 1
		x := n.rest[last]
		n.rest = n.rest[:last]
		n.find(x)
	}
	return n
}

// ask needs a line, and so what it reads.
func (n *needs) ask(b, at int) {
	n.lines[at] = true
	for _, r := range ins.Reads(&n.code[at].Ins) {
		n.rest = append(n.rest, need{b, at, r})
	}
}

// find goes back to the line that has made a number last, or, where there is none in the block, on all ways to that.
func (n *needs) find(x need) {
	b, w := &n.blocks[x.block], n.writers[x.register]
	k := sort.SearchInts(w, x.at) - 1
	switch {
	case k >= 0 && w[k] >= b.from:
		if !n.lines[w[k]] {
			n.ask(x.block, w[k])
		}
	case !n.begins[x.block].has(x.register):
		n.begins[x.block] = n.begins[x.block].and(x.register, len(n.writers))
		for _, p := range b.prev {
			n.rest = append(n.rest, need{p, n.blocks[p].to, x.register})
		}
	}
}

// drop leaves out lines that aren't needed.
func drop(n *needs) {
	for at := range n.code {
		n.code[at].gone = n.code[at].gone || !n.lines[at]
	}
}

// set is of registers: a bit for each; none, where it is nil.
type set []uint64

func (s set) has(r int) bool { return r/64 < len(s) && s[r/64]>>(r%64)&1 == 1 }

// and is a set with one more of so many registers.
func (s set) and(r, registers int) set {
	if s == nil {
		s = make(set, (registers+63)/64)
	}
	s[r/64] |= 1 << (r % 64)
	return s
}
