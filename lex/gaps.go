package lex

import "strings"

// gap is how many bytes of blanks and remarks a text begins with; false, if the remark behind these has no end.
func gap(s string) (int, bool) {
	at := 0
	for at < len(s) {
		n, ends := oneGap(s[at:])
		switch {
		case !ends:
			return at, false
		case n == 0:
			return at, true
		}
		at += n
	}
	return at, true
}

// oneGap is how many bytes the blank or the remark has with which a text begins, 0 if it begins with none; false, if a remark has no end.
func oneGap(s string) (int, bool) {
	switch {
	case isBlank(s[0]):
		return 1, true
	case strings.HasPrefix(s, "//"):
		return line(s), true
	case !strings.HasPrefix(s, "/*"):
		return 0, true
	}
	end := strings.Index(s[2:], "*/")
	if end < 0 {
		return 0, false
	}
	return 2 + end + 2, true
}

func isBlank(c byte) bool { return c == 9 || c == 10 || c == 13 || c == 32 }

// line is how many bytes are ahead of the next byte 10, or of the end.
func line(s string) int {
	if n := strings.IndexByte(s, 10); n >= 0 {
		return n
	}
	return len(s)
}
