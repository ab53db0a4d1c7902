package declare

import "strings"

// The bytes of which a part has one or more in a row.
const (
	white   = "\t\n\r "
	letters = "abcdefghijklmnopqrstuvwxyz"
)

// rest is what was not read yet of a text; its methods cut off what stands next.
type rest string

// take cuts off a text, if it stands next.
func (r *rest) take(s string) bool {
	left, ok := strings.CutPrefix(string(*r), s)
	*r = rest(left)
	return ok
}

// run cuts off the bytes of a set that stand next, as many as there are.
func (r *rest) run(set string) string {
	s := string(*r)
	left := strings.TrimLeft(s, set)
	*r = rest(left)
	return s[:len(s)-len(left)]
}

// upTo cuts off what stands up to the first of an end, and the end.
func (r *rest) upTo(end string) (s string, ok bool) {
	s, left, ok := strings.Cut(string(*r), end)
	if !ok {
		return "", false
	}
	*r = rest(left)
	return s, true
}

// part cuts off a part of a declaration: white space, a name, =, a value.
func (r *rest) part() (name, value string, ok bool) {
	if r.run(white) == "" {
		return "", "", false
	}
	name = r.run(letters)
	r.run(white)
	if name == "" || !r.take("=") {
		return "", "", false
	}
	r.run(white)
	value, ok = r.quoted(`"`, "'")
	if !ok {
		return "", "", false
	}
	return name, value, true
}

// quoted cuts off a value that stands between two of the same of some quotes.
func (r *rest) quoted(quotes ...string) (value string, ok bool) {
	for _, quote := range quotes {
		if r.take(quote) {
			return r.upTo(quote)
		}
	}
	return "", false
}
