package lex

import "hauberk/api"

// signs are the bytes of all signs, 0 behind one of one byte, and how many these are.
type signs map[[2]byte]int

func allSigns() signs {
	return signs{
		{'-', '>'}: 2, {'<', '<'}: 2, {'>', '>'}: 2, {'<', '='}: 2, {'>', '='}: 2,
		{'=', '='}: 2, {'!', '='}: 2, {'&', '&'}: 2, {'|', '|'}: 2,
		{'+'}: 1, {'-'}: 1, {'*'}: 1, {'/'}: 1, {'%'}: 1, {'&'}: 1, {'^'}: 1, {'~'}: 1,
		{'!'}: 1, {'<'}: 1, {'>'}: 1, {'='}: 1, {'('}: 1, {')'}: 1, {'{'}: 1, {'}'}: 1,
		{'['}: 1, {']'}: 1, {';'}: 1, {','}: 1, {'.'}: 1, {'|'}: 1,
	}
}

// token is the kind of the token with which a text begins, and how many bytes it has; 0, if the text begins with none, or it goes wrong.
func (m signs) token(s string) (int, int) {
	switch {
	case isDigit(s[0]), s[0] == '\'':
		return api.TNum, number(s)
	case mayBeInName(s[0]):
		return nameOrWord(s)
	}
	return api.TSign, m.sign(s)
}

// sign is how many bytes the longest sign has with which a text begins; 0, if it begins with none.
func (m signs) sign(s string) int {
	pair := [2]byte{}
	copy(pair[:], s)
	if n := m[pair]; n > 0 {
		return n
	}
	return m[[2]byte{s[0]}]
}

// nameOrWord is the kind and the bytes of what begins with a letter or _.
func nameOrWord(s string) (int, int) {
	n := together(s)
	switch {
	case n > api.MaxName:
		return api.TName, 0
	case isWord(s[:n]):
		return api.TWord, n
	}
	return api.TName, n
}

func isWord(s string) bool {
	switch s {
	case "char", "int", "long", "void", "struct", "if", "else", "while", "return", "break", "continue", "sizeof", "malloc":
		return true
	}
	return false
}

// together is how many letters, digits and _ a text begins with.
func together(s string) int {
	for i := range len(s) {
		if !mayBeInName(s[i]) {
			return i
		}
	}
	return len(s)
}

func mayBeInName(c byte) bool {
	return c >= 'a' && c <= 'z' || c >= 'A' && c <= 'Z' || c == '_' || isDigit(c)
}

func isDigit(c byte) bool { return c >= '0' && c <= '9' }
