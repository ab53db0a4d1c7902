package media

import "carding/api"

// The places at which the next byte may stand.
const (
	nowhere  = iota // the text is no Content-Type
	over            // the text was one
	start           // ahead of the type
	top             // in the type, ahead of the slash
	slashed         // just behind the slash
	sub             // in the type, behind the slash
	behind          // behind the type, or behind a parameter
	opened          // behind a semicolon
	named           // in a parameter's name
	assigned        // just behind =
	worded          // in a value that is a token
	quoted          // in a quoted text
	escaped         // just behind a backslash
)

// reader is what was read of a Content-Type.
type reader struct {
	media api.Media
	word  []byte // what was read of the type, of a name or of a value that is not over
}

// reads gives for each place what reads a byte there, and tells the next byte's place.
func (r *reader) reads() map[int]func(c int) int {
	return map[int]func(c int) int{
		start:    r.start,
		top:      r.top,
		slashed:  r.slashed,
		sub:      r.sub,
		behind:   r.behind,
		opened:   r.opened,
		named:    r.named,
		assigned: r.assigned,
		worded:   r.worded,
		quoted:   r.quoted,
		escaped:  r.escaped,
	}
}

// keep keeps a byte of the word, if it is in a set; the next one stands at a place.
func (r *reader) keep(c, set, place int) int {
	if !isIn(c, set) {
		return nowhere
	}
	r.word = append(r.word, byte(c))
	return place
}

// take gives the word, which is over.
func (r *reader) take() string {
	s := string(r.word)
	r.word = r.word[:0]
	return s
}

// value gives the last parameter its value, the word.
func (r *reader) value() { r.media.Params[len(r.media.Params)-1].Value = r.take() }

func (r *reader) start(c int) int {
	if isIn(c, 1<<blank) {
		return start
	}
	return r.keep(c, inToken, top)
}

func (r *reader) top(c int) int {
	if c == '/' {
		return r.keep(c, 1<<sign, slashed)
	}
	return r.keep(c, inToken, top)
}

func (r *reader) slashed(c int) int { return r.keep(c, inToken, sub) }

func (r *reader) sub(c int) int {
	if isIn(c, inToken) {
		return r.keep(c, inToken, sub)
	}
	r.media.Type = Lower(r.take())
	return r.behind(c)
}

func (r *reader) behind(c int) int {
	switch {
	case c == end:
		return over
	case c == ';':
		return opened
	case isIn(c, 1<<blank):
		return behind
	}
	return nowhere
}

func (r *reader) opened(c int) int {
	switch {
	case c == end:
		return over
	case c == ';' || isIn(c, 1<<blank):
		return opened
	}
	return r.keep(c, inToken, named)
}

func (r *reader) named(c int) int {
	if c != '=' {
		return r.keep(c, inToken, named)
	}
	r.media.Params = append(r.media.Params, api.Param{Name: Lower(r.take())})
	return assigned
}

func (r *reader) assigned(c int) int {
	if c == '"' {
		return quoted
	}
	return r.keep(c, inToken, worded)
}

func (r *reader) worded(c int) int {
	if isIn(c, inToken) {
		return r.keep(c, inToken, worded)
	}
	r.value()
	return r.behind(c)
}

func (r *reader) quoted(c int) int {
	switch c {
	case '"':
		r.value()
		return behind
	case '\\':
		return escaped
	}
	return r.keep(c, inQuotes, quoted)
}

func (r *reader) escaped(c int) int { return r.keep(c, isMeant, quoted) }
