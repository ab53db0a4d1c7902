package single_test

import (
	"math"
	"slices"
	"strings"
	"testing"
	"unicode/utf8"

	"carding/api"
	"carding/single"
)

// own are the scalars of 80 to 9F where they are their own numbers.
const own = "\u0080\u0081\u0082\u0083\u0084\u0085\u0086\u0087\u0088\u0089\u008a\u008b\u008c\u008d\u008e\u008f" +
	"\u0090\u0091\u0092\u0093\u0094\u0095\u0096\u0097\u0098\u0099\u009a\u009b\u009c\u009d\u009e\u009f"

// latin are the scalars of C0 to FF where they are their own numbers.
const latin = "\u00c0\u00c1\u00c2\u00c3\u00c4\u00c5\u00c6\u00c7\u00c8\u00c9\u00ca\u00cb\u00cc\u00cd\u00ce\u00cf" +
	"\u00d0\u00d1\u00d2\u00d3\u00d4\u00d5\u00d6\u00d7\u00d8\u00d9\u00da\u00db\u00dc\u00dd\u00de\u00df" +
	"\u00e0\u00e1\u00e2\u00e3\u00e4\u00e5\u00e6\u00e7\u00e8\u00e9\u00ea\u00eb\u00ec\u00ed\u00ee\u00ef" +
	"\u00f0\u00f1\u00f2\u00f3\u00f4\u00f5\u00f6\u00f7\u00f8\u00f9\u00fa\u00fb\u00fc\u00fd\u00fe\u00ff"

// upper are the texts of the bytes from 80 to FF, written out by the charts of the encodings.
var upper = map[int8]string{
	api.Win1252: "\u20ac\u0081\u201a\u0192\u201e\u2026\u2020\u2021\u02c6\u2030\u0160\u2039\u0152\u008d\u017d\u008f" +
		"\u0090\u2018\u2019\u201c\u201d\u2022\u2013\u2014\u02dc\u2122\u0161\u203a\u0153\u009d\u017e\u0178" +
		"\u00a0\u00a1\u00a2\u00a3\u00a4\u00a5\u00a6\u00a7\u00a8\u00a9\u00aa\u00ab\u00ac\u00ad\u00ae\u00af" +
		"\u00b0\u00b1\u00b2\u00b3\u00b4\u00b5\u00b6\u00b7\u00b8\u00b9\u00ba\u00bb\u00bc\u00bd\u00be\u00bf" + latin,
	api.Iso5: own + "\u00a0\u0401\u0402\u0403\u0404\u0405\u0406\u0407\u0408\u0409\u040a\u040b\u040c\u00ad\u040e\u040f" +
		"\u0410\u0411\u0412\u0413\u0414\u0415\u0416\u0417\u0418\u0419\u041a\u041b\u041c\u041d\u041e\u041f" +
		"\u0420\u0421\u0422\u0423\u0424\u0425\u0426\u0427\u0428\u0429\u042a\u042b\u042c\u042d\u042e\u042f" +
		"\u0430\u0431\u0432\u0433\u0434\u0435\u0436\u0437\u0438\u0439\u043a\u043b\u043c\u043d\u043e\u043f" +
		"\u0440\u0441\u0442\u0443\u0444\u0445\u0446\u0447\u0448\u0449\u044a\u044b\u044c\u044d\u044e\u044f" +
		"\u2116\u0451\u0452\u0453\u0454\u0455\u0456\u0457\u0458\u0459\u045a\u045b\u045c\u00a7\u045e\u045f",
	api.Iso15: own + "\u00a0\u00a1\u00a2\u00a3\u20ac\u00a5\u0160\u00a7\u0161\u00a9\u00aa\u00ab\u00ac\u00ad\u00ae\u00af" +
		"\u00b0\u00b1\u00b2\u00b3\u017d\u00b5\u00b6\u00b7\u017e\u00b9\u00ba\u00bb\u0152\u0153\u0178\u00bf" + latin,
}

// encodings are those of single bytes.
var encodings = []int8{api.Win1252, api.Iso5, api.Iso15}

// others are all encodings' numbers that an int8 can be, but those of single bytes.
func others() []int8 {
	l := []int8{api.Utf8, api.Utf16le, api.Utf16be}
	for n := -128; n < 128; n++ {
		if n < 0 || n >= int(api.Encodings) {
			l = append(l, int8(n))
		}
	}
	return l
}

// ascii are all bytes below 80.
func ascii() string {
	var b []byte
	for c := range 0x80 {
		b = append(b, byte(c))
	}
	return string(b)
}

// allBytes are all 256 bytes, rising.
func allBytes() string {
	var b []byte
	for c := range 0x100 {
		b = append(b, byte(c))
	}
	return string(b)
}

// textOf gives the text of all bytes.
func textOf(enc int8) string { return ascii() + upper[enc] }

// stands holds all calls on one byte and its scalar against what is wanted.
func stands(t *testing.T, enc int8, b byte, want int) {
	t.Helper()
	if r, ok := single.Scalar(enc, b); r != want || !ok {
		t.Errorf("Scalar(%d, %x) = %x, %v; want %x", enc, b, r, ok, want)
	}
	if back, ok := single.Byte(enc, want); back != b || !ok {
		t.Errorf("Byte(%d, %x) = %x, %v; want %x", enc, want, back, ok, b)
	}
	if l := single.Table(enc); len(l) != 256 || l[b] != want {
		t.Errorf("Table(%d): %d scalars, or not %x of %x", enc, len(l), want, b)
	}
	bytes, text := string([]byte{b}), string(rune(want))
	for _, x := range [][2]string{{bytes, text}, {"a" + bytes, "a" + text}, {bytes + "a", text + "a"}, {bytes + bytes, text + text}} {
		decodes(t, enc, x[0], x[1])
		encodes(t, enc, x[1], x[0])
	}
}

// decodes holds Decode against what is wanted.
func decodes(t *testing.T, enc int8, b, want string) {
	t.Helper()
	if s, e := single.Decode(enc, b); s != want || e != api.OK {
		t.Errorf("Decode(%d, % x) = %q, %v; want %q", enc, b, s, e, want)
	}
}

// encodes holds Encode against what is wanted.
func encodes(t *testing.T, enc int8, s, want string) {
	t.Helper()
	if b, at, e := single.Encode(enc, s); b != want || at != -1 || e != api.OK {
		t.Errorf("Encode(%d, %q) = % x, %d, %v; want % x", enc, s, b, at, e, want)
	}
}

// stops holds Encode against the place at which it ends.
func stops(t *testing.T, enc int8, s string, want int) {
	t.Helper()
	if b, at, e := single.Encode(enc, s); b != "" || at != want || e != api.ErrArg {
		t.Errorf("Encode(%d, %q) = % x, %d, %v; want an end at %d", enc, s, b, at, e, want)
	}
}

// P4.1

func TestEveryByte(t *testing.T) {
	for _, enc := range encodings {
		l := []rune(textOf(enc))
		if len(l) != 256 {
			t.Fatal(enc, len(l))
		}
		for b, r := range l {
			stands(t, enc, byte(b), int(r))
		}
	}
}

func TestEdges(t *testing.T) {
	for _, x := range []struct {
		enc  int8
		b    byte
		want int
	}{
		{api.Win1252, 0, 0}, {api.Win1252, 'a', 'a'}, {api.Win1252, 0x7F, 0x7F}, {api.Win1252, 0x80, 0x20AC}, {api.Win1252, 0x81, 0x81}, {api.Win1252, 0x82, 0x201A},
		{api.Win1252, 0x83, 0x192}, {api.Win1252, 0x88, 0x2C6}, {api.Win1252, 0x8C, 0x152}, {api.Win1252, 0x8D, 0x8D}, {api.Win1252, 0x8E, 0x17D}, {api.Win1252, 0x8F, 0x8F},
		{api.Win1252, 0x90, 0x90}, {api.Win1252, 0x91, 0x2018}, {api.Win1252, 0x9C, 0x153}, {api.Win1252, 0x9D, 0x9D}, {api.Win1252, 0x9E, 0x17E}, {api.Win1252, 0x9F, 0x178},
		{api.Win1252, 0xA0, 0xA0}, {api.Win1252, 0xFF, 0xFF},
		{api.Iso5, 0, 0}, {api.Iso5, 0x7F, 0x7F}, {api.Iso5, 0x80, 0x80}, {api.Iso5, 0x9F, 0x9F}, {api.Iso5, 0xA0, 0xA0}, {api.Iso5, 0xA1, 0x401}, {api.Iso5, 0xA2, 0x402}, {api.Iso5, 0xAB, 0x40B},
		{api.Iso5, 0xAC, 0x40C}, {api.Iso5, 0xAD, 0xAD}, {api.Iso5, 0xAE, 0x40E}, {api.Iso5, 0xAF, 0x40F}, {api.Iso5, 0xB0, 0x410}, {api.Iso5, 0xC0, 0x420}, {api.Iso5, 0xEF, 0x44F},
		{api.Iso5, 0xF0, 0x2116}, {api.Iso5, 0xF1, 0x451}, {api.Iso5, 0xFC, 0x45C}, {api.Iso5, 0xFD, 0xA7}, {api.Iso5, 0xFE, 0x45E}, {api.Iso5, 0xFF, 0x45F},
		{api.Iso15, 0, 0}, {api.Iso15, 0x7F, 0x7F}, {api.Iso15, 0x80, 0x80}, {api.Iso15, 0xA0, 0xA0}, {api.Iso15, 0xA3, 0xA3}, {api.Iso15, 0xA4, 0x20AC}, {api.Iso15, 0xA5, 0xA5}, {api.Iso15, 0xA6, 0x160},
		{api.Iso15, 0xA7, 0xA7}, {api.Iso15, 0xA8, 0x161}, {api.Iso15, 0xA9, 0xA9}, {api.Iso15, 0xB3, 0xB3}, {api.Iso15, 0xB4, 0x17D}, {api.Iso15, 0xB5, 0xB5}, {api.Iso15, 0xB7, 0xB7},
		{api.Iso15, 0xB8, 0x17E}, {api.Iso15, 0xB9, 0xB9}, {api.Iso15, 0xBB, 0xBB}, {api.Iso15, 0xBC, 0x152}, {api.Iso15, 0xBD, 0x153}, {api.Iso15, 0xBE, 0x178}, {api.Iso15, 0xBF, 0xBF}, {api.Iso15, 0xFF, 0xFF},
	} {
		stands(t, x.enc, x.b, x.want)
	}
}

func TestTable(t *testing.T) {
	for _, enc := range encodings {
		var want []int
		for _, r := range textOf(enc) {
			want = append(want, int(r))
		}
		l := single.Table(enc)
		if !slices.Equal(l, want) {
			t.Errorf("Table(%d) = %x", enc, l)
		}
		clear(l)
		_ = append(l[:100], 7)
		if !slices.Equal(single.Table(enc), want) {
			t.Errorf("Table(%d) is not new memory", enc)
		}
	}
}

// Every number about the scalars has the byte that the charts give it, or none.
func TestByteOfEveryNumber(t *testing.T) {
	for _, enc := range encodings {
		want := map[int]byte{}
		for b, r := range []rune(textOf(enc)) {
			want[int(r)] = byte(b)
		}
		found := 0
		for r := -0x1000; r < 0x20000; r++ {
			b, ok := single.Byte(enc, r)
			if x, has := want[r]; ok != has || b != x {
				t.Fatalf("Byte(%d, %x) = %x, %v; want %x, %v", enc, r, b, ok, x, has)
			}
			if ok {
				found++
			}
		}
		if found != 256 {
			t.Errorf("%d: %d scalars have bytes", enc, found)
		}
	}
}

func TestByteOfNone(t *testing.T) {
	for _, enc := range encodings {
		for _, r := range []int{
			-1, -2, -0x7F, -0x80, -0x9F, -0xA0, -0xFF, -0x100, -0x20AC, math.MinInt8, math.MinInt16, math.MinInt32, math.MinInt, math.MinInt + 'a', math.MinInt + 0x20AC,
			0x100, 0x100 + 'b', 0x1FF, 0x2115, 0x2117, 0xD800, 0xDFFF, 0xFFFD, 0xFFFF, 0x10000 + 'a', 0x10000 + 0x20AC, 0x10000 + 0x401, 0x10FFFF, 0x110000, 0x110000 + 'a', 0x200000 + 'a',
			1<<31 + 'a', 1 << 32, 1<<32 + 'a', 1<<32 + 0xE9, 1<<32 + 0x20AC, 1<<32 + 0x410, 1<<40 + 'a', 1<<62 + 0x160, -1<<32 + 'a', -1<<16 + 'a', -1<<8 + 'a', -1<<8 + 0xA0, -1<<40 + 0x2116,
			math.MaxInt32, math.MaxInt - 0xFF, math.MaxInt - 1, math.MaxInt,
		} {
			if b, ok := single.Byte(enc, r); b != 0 || ok {
				t.Errorf("Byte(%d, %x) = %x, %v", enc, r, b, ok)
			}
		}
	}
}

// Scalars that have a byte in one encoding, none or another in the next.
func TestScalarsOfOneEncoding(t *testing.T) {
	const none = -1
	for _, x := range []struct {
		r                  int
		win1252, iso5, i15 int
	}{
		{0x20AC, 0x80, none, 0xA4}, {0x80, none, 0x80, 0x80}, {0x81, 0x81, 0x81, 0x81}, {0x82, none, 0x82, 0x82}, {0x8D, 0x8D, 0x8D, 0x8D}, {0x9F, none, 0x9F, 0x9F},
		{0x160, 0x8A, none, 0xA6}, {0x161, 0x9A, none, 0xA8}, {0x17D, 0x8E, none, 0xB4}, {0x17E, 0x9E, none, 0xB8}, {0x152, 0x8C, none, 0xBC}, {0x153, 0x9C, none, 0xBD}, {0x178, 0x9F, none, 0xBE},
		{0x192, 0x83, none, none}, {0x2014, 0x97, none, none}, {0x2122, 0x99, none, none},
		{0xA0, 0xA0, 0xA0, 0xA0}, {0xA1, 0xA1, none, 0xA1}, {0xA4, 0xA4, none, none}, {0xA6, 0xA6, none, none}, {0xA7, 0xA7, 0xFD, 0xA7}, {0xA8, 0xA8, none, none}, {0xAD, 0xAD, 0xAD, 0xAD},
		{0xB4, 0xB4, none, none}, {0xB8, 0xB8, none, none}, {0xBC, 0xBC, none, none}, {0xBD, 0xBD, none, none}, {0xBE, 0xBE, none, none}, {0xE9, 0xE9, none, 0xE9}, {0xFD, 0xFD, none, 0xFD}, {0xFF, 0xFF, none, 0xFF},
		{0x400, none, none, none}, {0x401, none, 0xA1, none}, {0x40C, none, 0xAC, none}, {0x40D, none, none, none}, {0x40E, none, 0xAE, none}, {0x410, none, 0xB0, none}, {0x44F, none, 0xEF, none},
		{0x450, none, none, none}, {0x451, none, 0xF1, none}, {0x45C, none, 0xFC, none}, {0x45D, none, none, none}, {0x45E, none, 0xFE, none}, {0x45F, none, 0xFF, none}, {0x460, none, none, none}, {0x2116, none, 0xF0, none},
	} {
		for i, want := range []int{x.win1252, x.iso5, x.i15} {
			b, ok := single.Byte(encodings[i], x.r)
			if ok != (want != none) || ok && int(b) != want || !ok && b != 0 {
				t.Errorf("Byte(%d, %x) = %x, %v; want %x", encodings[i], x.r, b, ok, want)
			}
			text := string(rune(x.r))
			if want == none {
				stops(t, encodings[i], text, 0)
			} else {
				encodes(t, encodings[i], text, string([]byte{byte(want)}))
			}
		}
	}
}

func TestOtherEncodings(t *testing.T) {
	for _, enc := range others() {
		for b := range 256 {
			if r, ok := single.Scalar(enc, byte(b)); r != 0 || ok {
				t.Fatalf("Scalar(%d, %x) = %x, %v", enc, b, r, ok)
			}
		}
		for _, r := range []int{0, 'a', 0xA0, 0xFF, 0x20AC, 0x410, -1, 0xD800, 0x110000, math.MaxInt, math.MinInt} {
			if b, ok := single.Byte(enc, r); b != 0 || ok {
				t.Errorf("Byte(%d, %x) = %x, %v", enc, r, b, ok)
			}
		}
		if l := single.Table(enc); len(l) != 0 {
			t.Errorf("Table(%d) = %x", enc, l)
		}
		for _, s := range []string{"", "a", "\x00", "\xe9", "é", "€", "Ж", "a\xff", "\U0001f600"} {
			if text, e := single.Decode(enc, s); text != "" || e != api.ErrArg {
				t.Errorf("Decode(%d, % x) = %q, %v", enc, s, text, e)
			}
			stops(t, enc, s, -1) // also where the text is wrong
		}
	}
}

// P4.2

func TestDecode(t *testing.T) {
	for _, enc := range encodings {
		decodes(t, enc, "", "")
		decodes(t, enc, allBytes(), textOf(enc))
	}
	for _, x := range []struct {
		enc     int8
		b, text string
	}{
		{api.Win1252, "a\x80\xe9", "a€é"}, {api.Win1252, "\x93caf\xe9\x94\x85", "“café”…"}, {api.Win1252, "\xc3\xa9", "Ã©"}, {api.Win1252, "\x81\x8d\x8f\x90\x9d", "\u0081\u008d\u008f\u0090\u009d"},
		{api.Iso5, "\xbf\xe0\xd8\xd2\xd5\xe2, \xdc\xd8\xe0!", "Привет, мир!"}, {api.Iso5, "\xb0\xf1\xf0", "Аё№"}, {api.Iso5, "\xac\xad\xae\xfc\xfd\xfe", "Ќ\u00adЎќ§ў"},
		{api.Iso15, "10 \xa4, \xbduvre\x00\r\n", "10 €, œuvre\x00\r\n"}, {api.Iso15, "\xa6\xa8\xb4\xb8\xbc\xbd\xbe", "ŠšŽžŒœŸ"}, {api.Iso15, "\x80\x9f", "\u0080\u009f"},
	} {
		decodes(t, x.enc, x.b, x.text)
		encodes(t, x.enc, x.text, x.b)
	}
}

func TestEncode(t *testing.T) {
	for _, enc := range encodings {
		encodes(t, enc, "", "")
		encodes(t, enc, textOf(enc), allBytes())
	}
}

// Encode ends at the first byte of the scalar that has none, not at the scalar's number nor within it.
func TestEncodeEnds(t *testing.T) {
	for _, x := range []struct {
		enc  int8
		s    string
		want int
	}{
		{api.Win1252, "Ж", 0}, {api.Win1252, "aЖ", 1}, {api.Win1252, "éЖ", 2}, {api.Win1252, "€Ж", 3}, {api.Win1252, "aé€Ж", 6}, {api.Win1252, "Жaé€", 0}, {api.Win1252, "aЖbЖ", 1},
		{api.Win1252, "\u0080", 0}, {api.Win1252, "é\u0082", 2}, {api.Win1252, "\u0081\u0080", 2}, {api.Win1252, "a\uffff", 1}, {api.Win1252, "€\U0001f600", 3}, {api.Win1252, "é\U0010ffff", 2},
		{api.Win1252, "e\u0301", 1}, {api.Win1252, "\ufeffa", 0}, {api.Win1252, "a\ufffd", 1},
		{api.Iso5, "é", 0}, {api.Iso5, "aé", 1}, {api.Iso5, "Жé", 2}, {api.Iso5, "№é", 3}, {api.Iso5, "№Жaé", 6}, {api.Iso5, "Ж€", 2}, {api.Iso5, "№\U0001f600№", 3}, {api.Iso5, "a\u0400", 1}, {api.Iso5, "ЌЍЎ", 2}, {api.Iso5, "\u00ad\u045d", 2},
		{api.Iso15, "¤", 0}, {api.Iso15, "a¤", 1}, {api.Iso15, "é¤", 2}, {api.Iso15, "€¤", 3}, {api.Iso15, "€é¦", 5}, {api.Iso15, "¨", 0}, {api.Iso15, "Š´", 2}, {api.Iso15, "ž¸", 2}, {api.Iso15, "Œ¼½¾", 2}, {api.Iso15, "ƒ", 0}, {api.Iso15, "€\U0001f600", 3},
	} {
		stops(t, x.enc, x.s, x.want)
	}
	for _, enc := range encodings { // what has no byte ends it, too, when it stands ahead of what would
		stops(t, enc, "\U0001f600\U0001f600", 0)
		stops(t, enc, "a\u0300", 1)
		stops(t, enc, "\u0800a\xff", 0)
		stops(t, enc, textOf(enc)+"\U00010000"+textOf(enc), len(textOf(enc)))
	}
}

// wrong are texts with no scalar's bytes at their front.
var wrong = []string{
	"\x80", "\x9f", "\xa0", "\xbf", "\xc0", "\xc1", "\xf5", "\xfe", "\xff", // bytes that begin nothing
	"\xed\xa0\x80", "\xed\xbf\xbf", "\xed\xa0\xbd\xed\xb8\x80", // halves of pairs
	"\xc0\x80", "\xc1\xa1", "\xe0\x81\xa1", "\xe0\x82\xac", "\xf0\x82\x82\xac", "\xf0\x80\x81\xa1", // overlong, of scalars that have bytes
	"\xf4\x90\x80\x80", "\xf8\x88\x80\x80\x80", // too great
	"\xc2", "\xc3", "\xe2", "\xe2\x82", "\xd0", "\xf0\x9f\x98", // cut off
}

func TestEncodeWrongText(t *testing.T) {
	wide := map[int8]string{api.Win1252: "€", api.Iso5: "№", api.Iso15: "€"}
	two := map[int8]string{api.Win1252: "é", api.Iso5: "Ж", api.Iso15: "é"}
	for _, enc := range encodings {
		for _, w := range wrong {
			stops(t, enc, w, 0)
			stops(t, enc, w+"a", 0)
			stops(t, enc, "a"+w, 1)
			stops(t, enc, "\x00"+w+"\x00", 1)
			stops(t, enc, two[enc]+w, 2)
			stops(t, enc, wide[enc]+w, 3)
			stops(t, enc, "a"+two[enc]+wide[enc]+w+w, 6)
			stops(t, enc, "a"+w+"\u0800", 1)          // wrong ahead of a scalar that has no byte
			stops(t, enc, w+"\U0001f600", 0)          //
			stops(t, enc, "a\u0800"+w, 1)             // and behind one
			stops(t, enc, two[enc]+"\U0001f600"+w, 2) //
		}
	}
}

// P4.3

func TestNoScalarTwice(t *testing.T) {
	for _, enc := range encodings {
		l := single.Table(enc)
		slices.Sort(l)
		if len(slices.Compact(l)) != 256 {
			t.Errorf("%d: a scalar has two bytes", enc)
		}
	}
}

func TestBack(t *testing.T) {
	for _, enc := range encodings {
		for one := range 256 {
			for two := range 256 {
				b := string([]byte{byte(one), byte(two)})
				text, e := single.Decode(enc, b)
				if e != api.OK || !utf8.ValidString(text) || utf8.RuneCountInString(text) != 2 {
					t.Fatalf("Decode(%d, % x) = %q, %v", enc, b, text, e)
				}
			}
			b := string([]byte{'a', byte(one), 'b', byte(255 - one)})
			text, _ := single.Decode(enc, b)
			encodes(t, enc, text, b)
		}
		b := strings.Repeat(allBytes(), 3)
		text, _ := single.Decode(enc, b)
		encodes(t, enc, text, b)
	}
}

func TestAsciiIsTheSame(t *testing.T) {
	for _, enc := range encodings {
		for b := range 0x80 {
			stands(t, enc, byte(b), b)
		}
		decodes(t, enc, ascii(), ascii())
		encodes(t, enc, ascii(), ascii())
	}
}

func TestLongTexts(t *testing.T) {
	for _, enc := range encodings {
		text, b := strings.Repeat(textOf(enc), 2000), strings.Repeat(allBytes(), 2000)
		if s, e := single.Decode(enc, b); s != text || e != api.OK {
			t.Error(enc, len(s), e)
		}
		if s, at, e := single.Encode(enc, text); s != b || at != -1 || e != api.OK {
			t.Error(enc, len(s), at, e)
		}
		if s, at, e := single.Encode(enc, text+"\U0001f600"); s != "" || at != len(text) || e != api.ErrArg {
			t.Error(enc, len(s), at, e)
		}
	}
}

// endOf gives the place at which Encode ends, as the chapter's words tell it, and the bytes ahead of it.
func endOf(enc int8, s string) (b []byte, at int) {
	chart := []rune(textOf(enc))
	for at < len(s) {
		r, n := utf8.DecodeRuneInString(s[at:])
		c := slices.Index(chart, r)
		if r == utf8.RuneError && n == 1 || c < 0 {
			return nil, at
		}
		b = append(b, byte(c))
		at += n
	}
	return b, -1
}

func FuzzAll(f *testing.F) {
	for _, enc := range encodings {
		f.Add(enc, textOf(enc))
		f.Add(enc, allBytes())
	}
	f.Add(api.Win1252, "a\xe2\x82b€Ж")
	f.Fuzz(func(t *testing.T, enc int8, s string) {
		if !slices.Contains(encodings, enc) {
			if _, e := single.Decode(enc, s); e != api.ErrArg {
				t.Error(enc, e)
			}
			stops(t, enc, s, -1)
			return
		}
		text, _ := single.Decode(enc, s)
		encodes(t, enc, text, s)
		b, at := endOf(enc, s)
		if at >= 0 {
			stops(t, enc, s, at)
			return
		}
		encodes(t, enc, s, string(b))
		decodes(t, enc, string(b), s)
	})
}
