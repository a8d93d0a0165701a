package lex

import "hauberk/api"

const (
	mostBytes   = 20 // of a TNum, its 0x among them
	greatest    = 1<<63 - 1
	quotedBytes = 3
	noDigit     = 16
)

// number is how many bytes the TNum has with which a text begins; 0, if it goes wrong. No letter, digit or _ may stand behind digits, so all of these that stand together are the number, or it is wrong.
func number(s string) int {
	n := together(s)
	if s[0] == '\'' {
		n = min(quotedBytes, len(s))
	}
	if _, e := Mean(s[:n]); e != api.OK {
		return 0
	}
	return n
}

// isQuoted tells whether a text is one byte between two '.
func isQuoted(s string) bool {
	return len(s) == quotedBytes && s[0] == '\'' && mayBeQuoted(s[1]) && s[2] == '\''
}

func mayBeQuoted(c byte) bool { return c >= 32 && c <= 126 && c != '\'' && c != '\\' }

// meanIn is what digits of a base mean.
func meanIn(base uint64, digits string) (uint64, api.Errno) {
	if digits == "" {
		return 0, api.ErrLex
	}
	n := uint64(0)
	for i := range len(digits) {
		d := digit(digits[i])
		if d >= base || n > (greatest-d)/base {
			return 0, api.ErrLex
		}
		n = n*base + d
	}
	return n, api.OK
}

// digit is what a digit means, in any base that there is.
func digit(c byte) uint64 {
	switch {
	case c >= '0' && c <= '9':
		return uint64(c - '0')
	case c >= 'a' && c <= 'f':
		return uint64(c-'a') + 10
	}
	return noDigit
}
