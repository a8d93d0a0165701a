package sem

import (
	"hauberk/api"
	"hauberk/heap"
)

// maker makes the deeds of a function, in the order of its text, each behind those that it has need of.
type maker struct {
	*plan
	*routine
	locals     map[string]int // which of a call's blocks is theirs
	again, out *label         // where continue and break lead
}

// label is a place among the deeds, which may be told later than it is asked for.
type label struct{ at int }

func (m *maker) add(do deed) { m.deeds = append(m.deeds, do) }

// begin takes the fuel for what comes next.
func (m *maker) begin() { m.add((*frame).Take) }

func (m *maker) put(l *label) { l.at = len(m.deeds) }

func (m *maker) jump(l *label) { m.add(func(f *frame) { f.at = l.at }) }

// jumpIf leads elsewhere, if whether the newest value holds is what is asked for.
func (m *maker) jumpIf(is bool, l *label) {
	m.add(func(f *frame) {
		if holds(f.pop()) == is {
			f.at = l.at
		}
	})
}

func (m *maker) constant(v heap.Value) { m.add(func(f *frame) { f.push(v) }) }

// one makes another value of the newest.
func (m *maker) one(become func(heap.Value) heap.Value) {
	m.add(func(f *frame) { f.push(become(f.pop())) })
}

// two makes one value of the newest two.
func (m *maker) two(become func(a, b heap.Value) heap.Value) {
	m.add(func(f *frame) {
		b := f.pop()
		f.push(become(f.pop(), b))
	})
}

// local gives a param or a local its block, and answers which.
func (m *maker) local(v api.Var) int {
	k := len(m.sizes)
	m.locals[v.Name] = k
	m.sizes = append(m.sizes, m.room(v))
	return k
}
