package media

import "strings"

// The kinds of bytes: each byte is of one.
const (
	none   = iota // a byte that may stand nowhere, or no byte
	blank         // 20 and 09
	small         // a token's bytes but for A to Z
	great         // A to Z
	escape        // a quote and a backslash
	sign          // the others up to 7E
	high          // 80 to FF
)

// The sets of kinds: what may stand where.
const (
	inLower  = 1 << small
	inToken  = 1<<small | 1<<great
	inQuotes = inToken | 1<<blank | 1<<sign | 1<<high   // as it is
	isMeant  = inToken | 1<<blank | 1<<sign | 1<<escape // behind a backslash
	inValue  = inQuotes | isMeant
)

const signs = "!#$%&'*+-.^_`|~" // a token's bytes that are no letters and no digits

// end stands for a byte behind the last one.
const end = -1

// byteAt gives a byte of a text, or its end.
func byteAt(s string, i int) int {
	if i < len(s) {
		return int(s[i])
	}
	return end
}

// kindOf gives a byte's kind.
func kindOf(c int) int {
	switch {
	case c == ' ' || c == '\t':
		return blank
	case c <= ' ' || c == 0x7F:
		return none
	case 'A' <= c && c <= 'Z':
		return great
	case 'a' <= c && c <= 'z' || '0' <= c && c <= '9' || strings.IndexByte(signs, byte(c)) >= 0:
		return small
	case c == '"' || c == '\\':
		return escape
	case c < 0x80:
		return sign
	}
	return high
}

// isIn tells whether a byte's kind is in a set.
func isIn(c, set int) bool { return set>>kindOf(c)&1 == 1 }

// isOf tells whether all bytes of a text are of a set.
func isOf(s string, set int) bool {
	for i := range len(s) {
		if !isIn(int(s[i]), set) {
			return false
		}
	}
	return true
}

// isWord tells whether a text has bytes, and all are of a set.
func isWord(s string, set int) bool { return s != "" && isOf(s, set) }
