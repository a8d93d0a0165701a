package opt

import (
	"slices"

	"hauberk/api"
)

// line is an instruction on its way to a better one.
type line struct {
	api.Ins
	first bool // of a row of checks, or one in it that something leads to: it stays as it is
	gone  bool // it does nothing any more
	sound bool // it is a load that can't be a fault
	slot  int  // the one that it stores to; none, if that isn't known
}

// none is told of a slot, or a line, where there is none.
const none = -1

func lines(code []api.Ins) []line {
	l := make([]line, len(code))
	for at, i := range code {
		l[at] = line{Ins: copied(i), first: sameCheck(code, at, at+1) && !sameCheck(code, at-1, at), slot: none}
	}
	for at, i := range code {
		if l[at].leads() && sameCheck(code, i.To-1, i.To) {
			l[i.To].first = true
		}
	}
	return l
}

// sameCheck tells whether there are checks of the same registers at two places.
func sameCheck(code []api.Ins, a, b int) bool {
	return 0 <= a && b < len(code) && code[a].Op == api.FCheck && code[b].Op == api.FCheck && slices.Equal(code[a].Args, code[b].Args)
}

func copies(code []line) []line {
	c := slices.Clone(code)
	for at := range c {
		c[at].Ins = copied(c[at].Ins)
	}
	return c
}

// copied is an instruction of new lists.
func copied(i api.Ins) api.Ins {
	i.Args, i.Outs = slices.Clone(i.Args), slices.Clone(i.Outs)
	return i
}

// leads tells whether a line leads elsewhere, or may.
func (l *line) leads() bool { return l.Op == api.MJump || l.Op == api.MIf }

// calculates tells whether a line makes a number of other ones alone, and of what stays as it is during its call.
func (l *line) calculates() bool {
	switch l.Op {
	case api.MConst, api.MMove, api.MOp, api.MNarrow, api.FTop, api.FSlot, api.FLock, api.FKey:
		return true
	}
	return false
}

// makes tells whether a line makes numbers, and does nothing else.
func (l *line) makes() bool { return l.calculates() || l.Op == api.FRead || l.sound }
