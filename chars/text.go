package chars

import (
	"iter"
	"slices"
	"strings"

	"carding/utf8"
)

const wrong = -1 // what a wrong byte is: no scalar, and so none of any kind

// scalars goes over a text: each place, and the scalar that stands there, or wrong.
func scalars(s string) iter.Seq2[int, int] {
	return func(yield func(at, r int) bool) {
		for at := 0; at < len(s); {
			r, n, ok := utf8.Next(s, at)
			if !ok {
				r, n = wrong, 1
			}
			if !yield(at, r) {
				return
			}
			at += n
		}
	}
}

// run tells how many bytes at the front of a text are of scalars of one kind.
func run(s string, is func(r int) bool) int {
	for at, r := range scalars(s) {
		if !is(r) {
			return at
		}
	}
	return len(s)
}

// name tells how many bytes at the front of a text are of a first scalar and, behind it, of further ones and links.
func name(s string, links ...int) int {
	for at, r := range scalars(s) {
		if at == 0 && !First(r) || !Further(r) && !slices.Contains(links, r) {
			return at
		}
	}
	return len(s)
}

// Plain tells whether a text is a plain name (P9.1).
func Plain(s string) bool {
	return s != "" && name(s) == len(s)
}

// Split gives the prefix and the local name of a name as written (P9.1).
func Split(s string) (prefix, local string, ok bool) {
	front, back, two := strings.Cut(s, ":")
	if !Plain(front) || two && !Plain(back) {
		return "", "", false
	}
	if !two {
		return "", front, true
	}
	return front, back, true
}

// Bad gives the place of the first thing in a text that is no Char, or -1 (P9.2).
func Bad(s string) int {
	at := run(s, Char)
	if at == len(s) {
		return -1
	}
	return at
}

// Blank tells whether a text is white space alone (P9.2).
func Blank(s string) bool {
	return run(s, Space) == len(s)
}

// Take tells how many bytes at the front of a text a name takes, with all its colons (P9.2).
func Take(s string) int {
	return name(s, ':')
}

// Lines gives a text with its lines made plain (P9.2).
func Lines(s string) string {
	const cr, lf = "\r", "\n"
	s = strings.ReplaceAll(s, cr+lf, lf) // ahead of the other CRs, or the LF behind one would be a line of its own
	return strings.ReplaceAll(s, cr, lf)
}
