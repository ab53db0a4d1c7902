package sniff

import (
	"strings"

	"carding/api"
	"carding/declare"
	"carding/label"
	"carding/media"
)

// contentType is a Content-Type as it is written.
type contentType string

// faults gives the kinds of reasons for what is wrong with it.
func (k contentType) faults() []int8 {
	if strings.Trim(string(k), " \t") == "" {
		return nil
	}
	m, e := media.Parse(string(k))
	if e != api.OK || !media.Xml(m) {
		return []int8{api.BzMedia}
	}
	return nil
}

// source is what an encoding is asked of.
type source struct {
	kind contentType
	body string
}

// answer is how a way answers that is asked for an encoding.
type answer int8

const (
	silent   answer = iota // it tells none
	mistaken               // what it tells is none
	told
)

// ways gives the ways to an encoding, in the order in which they are asked.
func ways() [4]func(s source) (int8, answer) {
	return [4]func(s source) (int8, answer){source.mark, source.charset, source.shape, source.declared}
}

// mark asks the body's mark.
func (s source) mark() (int8, answer) {
	enc, _, ok := declare.Mark(s.body)
	return seen(enc, ok)
}

// charset asks the Content-Type's charset.
func (s source) charset() (int8, answer) {
	m, _ := media.Parse(string(s.kind)) // one that can't be parsed has no parameters
	return named(media.Charset(m))
}

// shape asks the body's shape.
func (s source) shape() (int8, answer) {
	return seen(declare.Shape(s.body))
}

// declared asks what the body declares.
func (s source) declared() (int8, answer) {
	enc, a := named(declare.Scan(s.body))
	if a == told && encoding(enc).isUtf16() {
		return 0, mistaken // in UTF-16 no declaration could have been read
	}
	return enc, a
}

// seen answers an encoding that was seen, or was not.
func seen(enc int8, ok bool) (int8, answer) {
	if !ok {
		return 0, silent
	}
	return enc, told
}

// named answers the encoding that a label names, if there is a label.
func named(name string, ok bool) (int8, answer) {
	if !ok {
		return 0, silent
	}
	enc, ok := label.Of(name)
	if !ok {
		return 0, mistaken
	}
	return enc, told
}
