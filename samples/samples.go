// Package samples is for tests: it makes units of the middle language of addresses (layer 12) at random, and has what the tests of units have in common.
package samples

import (
	"hauberk/api"
	"hauberk/chance"
)

// Unit: one that is well formed, and an input. Of each seed it is another; of four that follow each other the first goes wrong soon, each next one goes on for longer.
func Unit(seed int) (api.Unit, []byte) {
	m := &maker{Source: chance.New(seed), wild: []int{3, 10, 30, 100}[uint64(seed)%4]}
	m.all()
	return m.unit, m.Bytes(4)
}

// Same tells whether two results are, where an empty list may be nil.
func Same(a, b api.Result) bool {
	return a.State == b.State && a.Code == b.Code && a.Why == b.Why && string(a.Out) == string(b.Out) && a.Steps == b.Steps && a.Checks == b.Checks
}
