// Package texts makes texts of programs at random: the tests of layers that are given programs try them.
package texts

import "hauberk/chance"

// Random: the text of a program that is right (but it may be too long, or too deep), and an input. Of each seed it is another; of four that follow each other the first goes wrong soon, each next one goes on for longer.
func Random(seed int) (string, []byte) { return text(seed, false) }

// Straight: likewise; but no pointer goes to the middle of a struct, so that what was stored is loaded by its own type.
func Straight(seed int) (string, []byte) { return text(seed, true) }

func text(seed int, straight bool) (string, []byte) {
	m := &maker{Source: chance.New(seed), wild: []int{4, 12, 40, 200}[uint64(seed)%4], straight: straight}
	return m.program(), m.Bytes(4)
}
