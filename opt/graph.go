package opt

import (
	"slices"

	"hauberk/api"
	"hauberk/ins"
)

// graph is how the blocks of a function lead to each other. The first one is empty, ahead of all lines.
type graph struct {
	blocks []block
	starts map[int]int // which block begins with a line
	found  []int       // ahead of which one each block was found last, by between
	order  []int       // those that ways lead to, each ahead of those that it leads to, but for ways back
}

// block is lines that are gone through from the first to the last.
type block struct {
	from, to   int // the last one is ahead of to
	next, prev []int
	changes    []int // what its lines change, by what stands for it
	above      int   // the last block that all ways to this one go through
}

func newGraph(code []line) *graph {
	g := &graph{blocks: []block{{}}, starts: map[int]int{}}
	for at, begins := range begins(code) {
		if begins {
			g.starts[at] = len(g.blocks)
			g.blocks = append(g.blocks, block{from: at})
		}
		g.blocks[len(g.blocks)-1].to = at + 1
	}
	g.found = make([]int, len(g.blocks))
	g.join(code)
	g.order = g.ordered()
	for _, b := range g.order {
		for _, n := range g.blocks[b].next {
			g.blocks[n].prev = append(g.blocks[n].prev, b)
		}
	}
	g.hang()
	return g
}

// begins tells of each line whether a block begins with it.
func begins(code []line) []bool {
	l := make([]bool, len(code)+1)
	l[0] = true
	for at, i := range code {
		switch i.Op {
		case api.MIf, api.MJump:
			l[i.To], l[at+1] = true, true
		case api.FRet, api.MExit:
			l[at+1] = true
		}
	}
	return l[:len(code)]
}

// join tells each block which ones may come next.
func (g *graph) join(code []line) {
	g.blocks[0].next = []int{1}
	for k := range g.blocks[1:] {
		b := &g.blocks[k+1]
		last := b.to - 1
		for _, at := range ins.Next(&code[last].Ins, last) {
			b.next = append(b.next, g.starts[at])
		}
	}
}

// ordered goes on from each block as far as it can, and puts down a block when nothing else is left behind it: the last one of them is the first.
func (g *graph) ordered() []int {
	var l []int
	gone := make([]int, len(g.blocks)) // how many ways on were gone from each, and one
	gone[0] = 1
	for way := []int{0}; len(way) > 0; {
		b := way[len(way)-1]
		next := g.blocks[b].next
		k := gone[b] - 1
		if k == len(next) {
			l = append(l, b)
			way = way[:len(way)-1]
			continue
		}
		gone[b]++
		if gone[next[k]] == 0 {
			gone[next[k]] = 1
			way = append(way, next[k])
		}
	}
	slices.Reverse(l)
	return l
}

// hang tells each block which one is above it. It begins with none, and goes on until nothing changes.
func (g *graph) hang() {
	rank := make([]int, len(g.blocks))
	for k, b := range g.order {
		rank[b] = k
		g.blocks[b].above = -1
	}
	g.blocks[0].above = 0
	for changed := true; changed; {
		changed = false
		for _, b := range g.order[1:] {
			above := -1
			for _, p := range g.blocks[b].prev {
				if g.blocks[p].above >= 0 {
					above = g.common(rank, above, p)
				}
			}
			changed = changed || above != g.blocks[b].above
			g.blocks[b].above = above
		}
	}
}

// common is the last block that all ways to either of two go through; a is -1, where there is but the other one yet.
func (g *graph) common(rank []int, a, b int) int {
	for a >= 0 && a != b {
		if rank[a] > rank[b] {
			a = g.blocks[a].above
		} else {
			b = g.blocks[b].above
		}
	}
	return b
}

// tree is all blocks that ways lead to, each behind the one above it, and all that are below it, at whatever depth, next to it.
func (g *graph) tree() []int {
	below := make([][]int, len(g.blocks))
	for _, b := range slices.Backward(g.order[1:]) {
		above := g.blocks[b].above
		below[above] = append(below[above], b)
	}
	var l []int
	for rest := []int{0}; len(rest) > 0; {
		b := rest[len(rest)-1]
		rest = append(rest[:len(rest)-1], below[b]...)
		l = append(l, b)
	}
	return l
}

// between is all blocks that are gone through on ways from the one above a block to it; itself, too, if a way leads back to it.
func (g *graph) between(b int) []int {
	var l []int
	for rest := slices.Clone(g.blocks[b].prev); len(rest) > 0; {
		p := rest[len(rest)-1]
		rest = rest[:len(rest)-1]
		if p != g.blocks[b].above && g.found[p] != b {
			g.found[p] = b
			l = append(l, p)
			rest = append(rest, g.blocks[p].prev...)
		}
	}
	return l
}
