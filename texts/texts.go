// Package texts makes texts of programs at random: the tests of layers that are given programs try them.
package texts

import "hauberk/chance"

// Random: the text of a program that is right (but it may be too long, or too deep), and an input. Of each seed it is another; of four that follow each other the first goes wrong soon, each next one goes on for longer.
func Random(seed int) (string, []byte) {
	m := &maker{Source: chance.New(seed), wild: []int{4, 12, 40, 200}[uint64(seed)%4]}
	return m.program(), m.Bytes(4)
}
