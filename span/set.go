package span

import "iter"

// set is of registers that follow each other: the lowest bit is for the first one. One of all registers would be as long for an instruction as the function has registers, for as many instructions; so they are gone through a width at a time.
type set uint64

const width = 64

func (s set) without(other set) set { return s &^ other }

// registers are those in a set whose first one is told, rising.
func (s set) registers(from int) iter.Seq[int] {
	return func(yield func(int) bool) {
		for k := 0; s>>k != 0; k++ {
			if s>>k&1 == 1 && !yield(from+k) {
				return
			}
		}
	}
}
