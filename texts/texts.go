// Package texts makes texts of programs at random: the tests of layers that are given programs try them.
package texts

// Random: the text of a program that is right (but it may be too long, or too deep), and an input. Of each seed it is another; of four that follow each other the first goes wrong soon, each next one goes on for longer.
func Random(seed int) (string, []byte) {
	m := &maker{source: source{uint64(seed)}, wild: []int{4, 12, 40, 200}[uint64(seed)%4]}
	text := m.program()
	input := make([]byte, m.below(5))
	for k := range input {
		input[k] = byte(m.next())
	}
	return text, input
}
