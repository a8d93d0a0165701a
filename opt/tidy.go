package opt

import (
	"slices"

	"hauberk/ins"
)

// tidy is the lines without those that are gone, to which no way leads, or which lead but to the next one.
func tidy(code []line) []line {
	strand(code)
	next := nextOnes(code)
	short := make([]line, 0, len(code))
	place := make([]int, len(code))
	for at, l := range code {
		place[at] = len(short)
		if !l.gone {
			short = append(short, l)
		}
	}
	for k := range short {
		if l := &short[k]; l.leads() {
			l.To = place[next[l.To]]
		}
	}
	return short
}

// strand leaves out what no way leads to.
func strand(code []line) {
	reached := make([]bool, len(code))
	for rest := []int{0}; len(rest) > 0; {
		at := rest[len(rest)-1]
		rest = rest[:len(rest)-1]
		switch {
		case reached[at]:
		case code[at].gone:
			rest = append(rest, at+1)
		default:
			rest = append(rest, ins.Next(&code[at].Ins, at)...)
		}
		reached[at] = true
	}
	for at := range code {
		code[at].gone = code[at].gone || !reached[at]
	}
}

// nextOnes tells of each line which one, from it on, is done next. One that leads there is left out, if that is behind it; but one that leads back goes round for ever, even where nothing else is left.
func nextOnes(code []line) []int {
	next := make([]int, len(code)+1)
	next[len(code)] = len(code)
	for at := range slices.Backward(code) {
		l := &code[at]
		l.gone = l.gone || l.leads() && l.To > at && next[l.To] == next[at+1]
		next[at] = at
		if l.gone {
			next[at] = next[at+1]
		}
	}
	return next
}
