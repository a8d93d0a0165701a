package span

import (
	"hauberk/api"
	"hauberk/ins"
)

// flow is what an instruction of a function may follow, and which ones read and write each register.
type flow struct {
	ahead   [][]int
	readers [][]int
	writers [][]int
}

func newFlow(f *api.Fn) *flow {
	w := &flow{ahead: make([][]int, len(f.Code)), readers: make([][]int, len(f.Kinds)), writers: make([][]int, len(f.Kinds))}
	for at := range f.Code {
		i := &f.Code[at]
		put(w.ahead, ins.Next(i, at), at)
		put(w.readers, ins.Reads(i), at)
		put(w.writers, ins.Writes(i), at)
	}
	return w
}

// put adds an instruction to some of the lists.
func put(lists [][]int, some []int, at int) {
	for _, k := range some {
		lists[k] = append(lists[k], at)
	}
}

// sets are of each instruction those of the registers from one on whose lists have it.
func (w *flow) sets(lists [][]int, from int) []set {
	l := make([]set, len(w.ahead))
	for k := range min(width, len(lists)-from) {
		for _, at := range lists[from+k] {
			l[at] |= 1 << k
		}
	}
	return l
}

// live are of each instruction those of the registers from one on that are live at it. They go back from what reads them until nothing more is told; the last that was told goes back first, so that it takes along what it meets on its way.
func (w *flow) live(from int) []set {
	live, writes := w.sets(w.readers, from), w.sets(w.writers, from)
	var rest []int
	for at, s := range live {
		if s != 0 {
			rest = append(rest, at)
		}
	}
	for len(rest) > 0 {
		at := rest[len(rest)-1]
		rest = rest[:len(rest)-1]
		for _, p := range w.ahead[at] {
			if more := live[at].without(writes[p]).without(live[p]); more != 0 {
				live[p] |= more
				rest = append(rest, p)
			}
		}
	}
	return live
}

// needed are of each instruction those of the registers from one on that are live at it, or are written.
func (w *flow) needed(from int) []set {
	l := w.live(from)
	for at, s := range w.sets(w.writers, from) {
		l[at] |= s
	}
	return l
}
