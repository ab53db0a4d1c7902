package sniff

import (
	"carding/api"
	"carding/single"
	"carding/utf16"
	"carding/utf8"
)

const well = -1 // the place of a fault where there is none

// encoding is an encoding that its decoder and its encoder are asked for.
type encoding int8

// isUtf16 tells whether it is one of UTF-16.
func (c encoding) isUtf16() bool {
	return c == encoding(api.Utf16le) || c.isBig()
}

// isBig tells whether it is the one of UTF-16 with the high byte of a unit first.
func (c encoding) isBig() bool { return c == encoding(api.Utf16be) }

// code is how an encoding's bytes become text, and text becomes its bytes.
type code struct {
	decode func(c encoding, b string) (text string, wrong int)
	encode func(c encoding, text string) (b string, ok bool)
}

// codes gives the code of each encoding.
func codes() [api.Encodings]code {
	return [api.Encodings]code{
		api.Utf8:    {encoding.fromUtf8, encoding.toUtf8},
		api.Utf16le: {encoding.fromUtf16, encoding.toUtf16},
		api.Utf16be: {encoding.fromUtf16, encoding.toUtf16},
		api.Win1252: {encoding.fromSingle, encoding.toSingle},
		api.Iso5:    {encoding.fromSingle, encoding.toSingle},
		api.Iso15:   {encoding.fromSingle, encoding.toSingle},
	}
}

// isOne tells whether a number is one of an encoding.
func isOne(enc int8) bool { return enc >= 0 && enc < api.Encodings }

// Decode gives the text of bytes, and the first byte that was wrong, or -1 (P8.1).
func Decode(enc int8, b string) (text string, wrong int) {
	switch {
	case isOne(enc):
		return codes()[enc].decode(encoding(enc), b)
	case b == "":
		return "", well
	}
	return "", 0 // the first byte is wrong already
}

// Encode gives a text's bytes, without a mark, if it can be encoded (P8.1).
func Encode(enc int8, text string) (string, bool) {
	if !isOne(enc) {
		return "", false
	}
	return codes()[enc].encode(encoding(enc), text)
}

func (encoding) fromUtf8(b string) (text string, wrong int) { return utf8.Loose(b) }

func (encoding) toUtf8(text string) (string, bool) {
	if !utf8.Valid(text) {
		return "", false
	}
	return text, true
}

func (c encoding) fromUtf16(b string) (text string, wrong int) {
	text, bad := utf16.Decode(b, c.isBig())
	if len(bad) == 0 {
		return text, well
	}
	return text, bad[0]
}

func (c encoding) toUtf16(text string) (string, bool) {
	b, e := utf16.Encode(text, c.isBig())
	return b, e == api.OK
}

func (c encoding) fromSingle(b string) (text string, wrong int) {
	text, _ = single.Decode(int8(c), b) // every byte is a scalar there
	return text, well
}

func (c encoding) toSingle(text string) (string, bool) {
	b, _, e := single.Encode(int8(c), text)
	return b, e == api.OK
}
