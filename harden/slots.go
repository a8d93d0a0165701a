package harden

import (
	"hauberk/api"
	"hauberk/ins"
)

// begin clears the slots that may be asked for ahead of their being settled: in the language of blocks they are 0 at first, in that of addresses whatever was there stands there.
func (m *maker) begin() {
	for slot := range m.Slots {
		if early(m.old, slot) {
			m.add(ins.Clear(slot))
		}
	}
}

// early tells whether a way leads from the beginning of a function to a pointer to a slot, and not by what settles it.
func early(f *api.Fn, slot int) bool {
	seen := make([]bool, len(f.Code))
	ways := []int{0}
	for len(ways) > 0 {
		at := ways[len(ways)-1]
		ways = ways[:len(ways)-1]
		i := &f.Code[at]
		switch {
		case seen[at] || settles(f, at, slot):
		case i.Op == api.MLocal && i.N == uint64(slot):
			return true
		default:
			ways = append(ways, followers(i, at)...)
		}
		seen[at] = true
	}
	return false
}

// settles tells whether an instruction clears a slot, or leads a pointer to it by which the next one stores all of it.
func settles(f *api.Fn, at, slot int) bool {
	i := &f.Code[at]
	switch {
	case i.N != uint64(slot):
		return false
	case i.Op == api.MLocal:
		next := &f.Code[at+1]
		return next.Op == api.MStore && next.A == i.Dst && next.Size == f.Slots[slot]
	}
	return i.Op == api.MClear
}

// followers are the places of the instructions that may come next.
func followers(i *api.Ins, at int) []int {
	switch i.Op {
	case api.MRet, api.MExit:
		return nil
	case api.MJump:
		return []int{i.To}
	case api.MIf:
		return []int{at + 1, i.To}
	}
	return []int{at + 1}
}
