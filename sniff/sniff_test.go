package sniff_test

import (
	"slices"
	"strings"
	"testing"
	"unicode/utf8"

	"carding/api"
	"carding/sniff"
)

// all are the encodings, each by its name.
var all = []struct {
	enc  int8
	name string
}{
	{api.Utf8, "utf-8"}, {api.Utf16le, "utf-16"}, {api.Utf16be, "utf-16be"},
	{api.Win1252, "windows-1252"}, {api.Iso5, "iso-8859-5"}, {api.Iso15, "iso-8859-15"},
}

// marks are the bytes that tell an encoding at the front.
var marks = map[int8]string{api.Utf8: "\xef\xbb\xbf", api.Utf16le: "\xff\xfe", api.Utf16be: "\xfe\xff"}

// one is the text of one byte.
func one(c int) string { return string([]byte{byte(c)}) }

// The reasons that there are: media, label, and bytes at a place.
var (
	media = api.Reason{Kind: api.BzMedia, At: 0}
	label = api.Reason{Kind: api.BzLabel, At: 0}
)

func bytes(at int) api.Reason { return api.Reason{Kind: api.BzBytes, At: at} }

// rows gives each text of at most n of the pieces to a function.
func rows(pieces []string, n int, each func(string)) {
	each("")
	if n == 0 {
		return
	}
	for _, p := range pieces {
		rows(pieces, n-1, func(s string) { each(p + s) })
	}
}

// finds holds Encoding against what is wanted.
func finds(t *testing.T, kind, body string, enc int8, skip int, l ...api.Reason) {
	t.Helper()
	e, n, got := sniff.Encoding(kind, body)
	if e != enc || n != skip || !slices.Equal(got, l) {
		t.Errorf("Encoding(%.99q, %.99q) = %d, %d, %v; want %d, %d, %v", kind, body, e, n, got, enc, skip, l)
	}
}

// reads holds Text against what is wanted.
func reads(t *testing.T, kind, body, text string, enc int8, l ...api.Reason) {
	t.Helper()
	s, e, got, err := sniff.Text(kind, body)
	if s != text || e != enc || !slices.Equal(got, l) || err != api.OK {
		t.Errorf("Text(%.99q, %.99q) = %.99q, %d, %v, %v; want %.99q, %d, %v", kind, body, s, e, got, err, text, enc, l)
	}
}

// isLarge holds Text against ErrLarge, beside which there is nothing.
func isLarge(t *testing.T, kind, body string) {
	t.Helper()
	if s, enc, l, e := sniff.Text(kind, body); s != "" || enc != 0 || len(l) != 0 || e != api.ErrLarge {
		t.Errorf("Text(%.99q, of %d bytes) = %.99q, %d, %v, %v; want ErrLarge", kind, len(body), s, enc, l, e)
	}
}

// holds holds Text against Encoding and Decode, and against what is promised of any text.
func holds(t *testing.T, kind, body string) {
	t.Helper()
	enc, skip, l := sniff.Encoding(kind, body)
	text, wrong := sniff.Decode(enc, body[skip:])
	if wrong >= 0 {
		l = append(l, bytes(skip+wrong))
	}
	reads(t, kind, body, text, enc, l...)
	if !utf8.ValidString(text) {
		t.Errorf("Text(%.99q, %.99q) = %.99q, which is not right", kind, body, text)
	}
	if n := len(marks[enc]); skip != 0 && (skip != n || body[:n] != marks[enc]) {
		t.Errorf("Encoding(%.99q, %.99q) = %d, %d, which is no mark", kind, body, enc, skip)
	}
	last := int8(-1)
	for i, r := range l {
		if r.Kind < last || r.Kind == last && r.Kind != api.BzLabel || r.Kind > api.BzBytes || r.Kind != api.BzBytes && r.At != 0 || i > 3 {
			t.Errorf("Text(%.99q, %.99q): reasons %v", kind, body, l)
		}
		last = r.Kind
	}
	if sniff.Xml(kind) != (len(l) == 0 || l[0] != media) {
		t.Errorf("Xml(%.99q), and reasons %v", kind, l)
	}
}

// P8.2

func TestText(t *testing.T) {
	reads(t, "text/xml; charset=latin1", "\xef\xbb\xbf\x61", "a", api.Utf8)
	reads(t, "text/xml; charset=none", "\x61", "a", api.Utf8, label)
	reads(t, "", "", "", api.Utf8)
	reads(t, "", "a", "a", api.Utf8)
	reads(t, " \t", "\u00e9\u20ac\U0001f600", "\u00e9\u20ac\U0001f600", api.Utf8)
	reads(t, "text/xml", "<?xml version='1.0'?><a/>", "<?xml version='1.0'?><a/>", api.Utf8)
	reads(t, "text/xml;charset=utf-8", "\x00\u0001\r\n\u0085\u2028", "\x00\u0001\r\n\u0085\u2028", api.Utf8)
	reads(t, "text/xml;charset=utf-16", "\x3d\xd8\x00\xdea\x00", "\U0001f600a", api.Utf16le)
	reads(t, "text/xml;charset=utf-16be", "\xd8\x3d\xde\x00\x00a", "\U0001f600a", api.Utf16be)
	reads(t, "text/xml;charset=latin1", "\x80\xe9\x81", "\u20ac\u00e9\u0081", api.Win1252)
	reads(t, "text/xml;charset=cyrillic", "\xc0\xf0", "\u0420\u2116", api.Iso5)
	reads(t, "text/xml;charset=l9", "\xa4\x80", "\u20ac\u0080", api.Iso15)
	reads(t, "", "<\x00?\x00", "<?", api.Utf16le)
	reads(t, "", "\x00<\x00?\x20\xac", "<?\u20ac", api.Utf16be)
	reads(t, "text/xml;charset=l9", "<\x00?\x00", "<\x00?\x00", api.Iso15)
	reads(t, "", "<?xml encoding='latin1'?>\xe9", "<?xml encoding='latin1'?>\u00e9", api.Win1252)
	reads(t, "", "<?xml encoding='iso-8859-5'?>\xb0", "<?xml encoding='iso-8859-5'?>\u0410", api.Iso5)
	reads(t, "", "<?xml encoding='utf-16'?>\u00e9", "<?xml encoding='utf-16'?>\u00e9", api.Utf8, label)
	reads(t, "text/xml;charset=utf-8", "<?xml encoding='latin1'?>\u00e9", "<?xml encoding='latin1'?>\u00e9", api.Utf8)
}

// Without a reason, with one of each kind, and with each two and three kinds.
func TestTextReasons(t *testing.T) {
	const none = "<?xml encoding='none'?>"
	reads(t, "text/xml", "a", "a", api.Utf8)
	reads(t, "text/html", "a", "a", api.Utf8, media)
	reads(t, "text/xml;charset=none", "a", "a", api.Utf8, label)
	reads(t, "text/xml", none, none, api.Utf8, label)
	reads(t, "text/xml", "a\xff", "a\ufffd", api.Utf8, bytes(1))
	reads(t, "text/html;charset=none", "a", "a", api.Utf8, media, label)
	reads(t, "text/html;charset=none", none, none, api.Utf8, media, label, label)
	reads(t, "text/html", none, none, api.Utf8, media, label)
	reads(t, "text/html", "ab\xff", "ab\ufffd", api.Utf8, media, bytes(2))
	reads(t, "text/xml;charset=none", "\xff", "\ufffd", api.Utf8, label, bytes(0))
	reads(t, "text/xml;charset=none", none+"\xff\xff", none+"\ufffd\ufffd", api.Utf8, label, label, bytes(23))
	reads(t, "text/html;charset=none", "a\xffb\xfe", "a\ufffdb\ufffd", api.Utf8, media, label, bytes(1))
	reads(t, "text/html;charset=none", none+"\xe2\x82", none+"\ufffd", api.Utf8, media, label, label, bytes(23))
	reads(t, "no", "<?xml encoding='utf-16be'?>\xe9", "<?xml encoding='utf-16be'?>\ufffd", api.Utf8, media, label, bytes(27))
	reads(t, "no;charset=latin1", "\u00e9", "\u00e9", api.Utf8, media)
	reads(t, "text/html;charset=latin1", "\xe9\xff", "\u00e9\u00ff", api.Win1252, media)
	reads(t, "no", "\xff\xfea", "\ufffd", api.Utf16le, media, bytes(2))
	reads(t, "text/xml;charset=none", "<\x00?\x00\x00\xdc", "<?\ufffd", api.Utf16le, label, bytes(4))
}

// The place of a wrong byte is one in the body: a mark's bytes count.
func TestTextPlace(t *testing.T) {
	for enc, units := range map[int8][]string{
		api.Utf8:    {"a", "\u00e9", "\u20ac", "\U0001f600", "\ufeff", "\ufffd"},
		api.Utf16le: {"a\x00", "\xe9\x00", "\x3d\xd8\x00\xde", "\xff\xfe", "\xfd\xff"},
		api.Utf16be: {"\x00a", "\x00\xe9", "\xd8\x3d\xde\x00", "\xfe\xff", "\xff\xfd"},
	} {
		wrong := map[int8]string{api.Utf8: "\xff", api.Utf16le: "\x00\xdc", api.Utf16be: "\xdc\x00"}[enc]
		charset := map[int8]string{api.Utf8: "utf-8", api.Utf16le: "utf-16le", api.Utf16be: "utf-16be"}[enc]
		rows(units, 3, func(s string) {
			text, at := sniff.Decode(enc, s)
			if at != -1 {
				t.Fatalf("Decode(%d, %q): %d", enc, s, at)
			}
			m := marks[enc]
			reads(t, "", m+s, text, enc)
			reads(t, "", m+s+wrong, text+"\ufffd", enc, bytes(len(m)+len(s)))
			reads(t, "text/xml;charset=none", m+s+wrong+s+wrong, text+"\ufffd"+text+"\ufffd", enc, bytes(len(m)+len(s)))
			reads(t, "", m+wrong+s, "\ufffd"+text, enc, bytes(len(m)))
			if !strings.HasPrefix(text, "\ufeff") {
				reads(t, "text/xml;charset="+charset, s+wrong+s, text+"\ufffd"+text, enc, bytes(len(s)))
			}
		})
	}
	reads(t, "", "\xff\xfea\x00b", "a\ufffd", api.Utf16le, bytes(4))
	reads(t, "", "\xfe\xff\x00ab", "a\ufffd", api.Utf16be, bytes(4))
	reads(t, "", "\xff\xfea", "\ufffd", api.Utf16le, bytes(2))
	reads(t, "", "\xff\xfea\x00\x00\xd8", "a\ufffd", api.Utf16le, bytes(4))
	reads(t, "", "\xff\xfe\x00\xd8a\x00", "\ufffda", api.Utf16le, bytes(2))
	reads(t, "", "\xef\xbb\xbf\xe2\x82b\xff", "\ufffdb\ufffd", api.Utf8, bytes(3))
	reads(t, "", "a\xe2\x82b", "a\ufffdb", api.Utf8, bytes(1))
}

func TestTextMark(t *testing.T) {
	for enc, m := range marks {
		for _, kind := range []string{"", "text/xml", "text/xml;charset=latin1", "text/xml;charset=utf-8", "text/xml;charset=utf-16", "text/xml;charset=none"} {
			reads(t, kind, m, "", enc)
			twice, _ := sniff.Encode(enc, "\ufeff")
			if twice != m {
				t.Errorf("Encode(%d, U+FEFF) = %q", enc, twice)
			}
			reads(t, kind, m+m, "\ufeff", enc)
			reads(t, kind, m+m+m, "\ufeff\ufeff", enc)
		}
		reads(t, "text/html", m, "", enc, media)
	}
	reads(t, "", "\xff\xfe\xfe\xff", "\ufffe", api.Utf16le)
	reads(t, "", "\xfe\xff\xff\xfe", "\ufffe", api.Utf16be)
	reads(t, "", "\xef\xbb\xbf\xff\xfe", "\ufffd\ufffd", api.Utf8, bytes(3))
	reads(t, "", "\xef\xbb\xbf\xfe\xff", "\ufffd\ufffd", api.Utf8, bytes(3))
	reads(t, "", "\xff\xfe\xef\xbb\xbf", "\ubbef\ufffd", api.Utf16le, bytes(4))
	reads(t, "", "\xfe\xff\xef\xbb\xbf", "\uefbb\ufffd", api.Utf16be, bytes(4))
	reads(t, "", "\xff\xfe\x00\x00", "\x00", api.Utf16le)
	for _, s := range []string{"\xef", "\xef\xbb", "\xff", "\xfe"} {
		reads(t, "", s, "\ufffd", api.Utf8, bytes(0))
		reads(t, "", s+"a", "\ufffda", api.Utf8, bytes(0))
		reads(t, "", "a"+s, "a\ufffd", api.Utf8, bytes(1))
	}
	reads(t, "", "a\xef\xbb\xbf", "a\ufeff", api.Utf8)
	reads(t, "text/xml;charset=latin1", "\xff", "\u00ff", api.Win1252)
	reads(t, "text/xml;charset=latin1", "\xef\xbb", "\u00ef\u00bb", api.Win1252)
	reads(t, "text/xml;charset=latin1", "a\xff\xfe", "a\u00ff\u00fe", api.Win1252)
	for _, s := range []string{"<\x00?", "<\x00", "\x00<\x00", "\x00<"} {
		reads(t, "", s, s, api.Utf8)
		reads(t, "", s+"a", s+"a", api.Utf8)
	}
}

func TestTextLarge(t *testing.T) {
	if api.MaxBody != 4096 {
		t.Fatal(api.MaxBody)
	}
	kinds := []string{"", " ", "text/xml", "text/xml;charset=latin1", "text/xml;charset=none", "text/html", "text/html;charset=none", "no", "text/xml;charset=utf-16"}
	for _, kind := range kinds {
		for _, front := range []string{"", "\xef\xbb\xbf", "\xff\xfe", "\xfe\xff", "<\x00?\x00", "\x00<\x00?", "<?xml encoding='latin1'?>", "<?xml encoding='none'?>", "\xff\xff"} {
			full := front + strings.Repeat("a", 4096-len(front))
			holds(t, kind, full)
			holds(t, kind, full[:4095])
			isLarge(t, kind, full+"a")
			isLarge(t, kind, full+"\xff")
			isLarge(t, kind, full+full)
		}
	}
	a, wrong := strings.Repeat("a", 4096), strings.Repeat("\xff", 4096)
	reads(t, "", a, a, api.Utf8)
	reads(t, "", "\xef\xbb\xbf"+a[3:], a[3:], api.Utf8)
	isLarge(t, "", "\xef\xbb\xbf"+a)
	isLarge(t, "", "\xef\xbb\xbf"+a[2:])
	reads(t, "text/xml;charset=utf-16le", a, strings.Repeat("\u6161", 2048), api.Utf16le)
	reads(t, "", wrong[:1]+a[1:], "\ufffd"+a[1:], api.Utf8, bytes(0))
	reads(t, "", a[1:]+"\xff", a[1:]+"\ufffd", api.Utf8, bytes(4095))
	reads(t, "", wrong, strings.Repeat("\ufffd", 4096), api.Utf8, bytes(0))
	reads(t, "text/xml;charset=l1", "\x80"+wrong[1:], "\u20ac"+strings.Repeat("\u00ff", 4095), api.Win1252)
	isLarge(t, "", strings.Repeat("a", 1<<22))
	isLarge(t, strings.Repeat(";", 1<<20), wrong+wrong)
}

// A text's answer is that of Encoding and Decode, and is right, whatever the bytes are.
func TestTextAny(t *testing.T) {
	kinds := []string{"", "text/xml", "text/html", "no", "text/xml;charset=none"}
	for _, x := range all {
		kinds = append(kinds, "text/xml;charset="+x.name)
	}
	pieces := []string{"\x00", "a", "<", "?", "\x80", "\xbb", "\xbf", "\xc3", "\xd8", "\xdc", "\xef", "\xfe", "\xff", "<?xml encoding='l1'?>"}
	rows(pieces, 3, func(body string) {
		for _, kind := range kinds {
			holds(t, kind, body)
		}
	})
	edges := []string{}
	for c := range 256 {
		if c < 2 || c == '<' || c == '?' || c == 'a' || c >= 0x7e && c%3 == 0 || c > 0xd0 {
			edges = append(edges, one(c))
		}
	}
	for _, kind := range kinds {
		rows(edges, 2, func(body string) { holds(t, kind, body) })
		for c := range 256 {
			holds(t, kind, strings.Repeat(one(c), 5))
			for _, m := range marks {
				holds(t, kind, m+one(c))
				holds(t, kind, m+"a"+one(c)+"b")
			}
			holds(t, "text/xml;charset=latin1"+one(c), "\xe9")
			holds(t, one(c)+"text/xml", "\xe9")
			holds(t, one(c), one(c))
		}
	}
}

// An answer's reasons that are changed are not seen in the next answer.
func TestReasonsAreNew(t *testing.T) {
	const kind, body = "text/html;charset=none", "<?xml encoding='none'?>\xff"
	for range 3 {
		_, _, l, _ := sniff.Text(kind, body)
		_, _, m := sniff.Encoding(kind, body)
		if !slices.Equal(l, []api.Reason{media, label, label, bytes(23)}) || !slices.Equal(m, l[:3]) {
			t.Fatal(l, m)
		}
		l = append(l, label, label, label)
		m = append(m, media, media, media)
		for i := range l {
			l[i] = api.Reason{Kind: 99, At: 99}
		}
		for i := range m {
			if m[i].Kind == 99 {
				t.Fatal("two answers share a list")
			}
			m[i] = api.Reason{Kind: 98, At: 98}
		}
	}
}

// P8.3

// texts gives texts of what an encoding has, and of what stands at the edges of it.
func texts(enc int8) []string {
	l := []string{"", "a", "<a/>", "<?xml version='1.0'?><a/>", "<?xml encoding='none'?>", "<?xml encoding='utf-16'?>", "<?xml encoding='latin1'?>\u00a7", "\x00", "\x7f", "<\x00?\x00", "\x00<\x00?"}
	switch enc {
	case api.Win1252:
		l = append(l, "\u20ac\u0081\u00ff\u00fe", "\u00e9", "\u0178a")
	case api.Iso5:
		l = append(l, "\u0401\u045f\u00a7", "\u0410\u2116\u00ad")
	case api.Iso15:
		l = append(l, "\u20ac\u0080\u00ff", "\u0160\u0178")
	default:
		l = append(l, "\u0080\u07ff\u0800\ud7ff\ue000\uffff\U00010000\U0010ffff", "\ufffd", "a\ufeff", "\ufffea", "\U0001f600", "\u3c3c\u3f3f")
	}
	for _, s := range l[:len(l):len(l)] {
		if s != "" {
			l = append(l, strings.Repeat(s, 1000/len(s)))
		}
	}
	return l
}

func TestThereAndBack(t *testing.T) {
	for _, x := range all {
		for _, s := range texts(x.enc) {
			b, ok := sniff.Encode(x.enc, s)
			if !ok {
				t.Errorf("Encode(%d, %q)", x.enc, s)
			}
			if m, ok := marks[x.enc]; ok {
				for _, kind := range []string{"", "text/xml", "text/xml;charset=latin1", "text/xml;charset=utf-16be", "text/xml;charset=none"} {
					reads(t, kind, m+b, s, x.enc)
				}
				reads(t, "no", m+b, s, x.enc, media)
			}
			if strings.HasPrefix(s, "\ufffe") {
				continue // its bytes are a mark
			}
			for _, kind := range []string{"text/xml;charset=" + x.name, "a/b+xml; charset=\" " + strings.ToUpper(x.name) + "\t\"; charset=none"} {
				reads(t, kind, b, s, x.enc)
			}
			reads(t, "text/html;charset="+x.name, b, s, x.enc, media)
		}
	}
}

// All scalars but those that make a mark, some hundred at once.
func TestThereAndBackAll(t *testing.T) {
	for _, x := range all[:3] {
		for first := 0; first < 0x110000; first += 0x200 {
			l := []rune{'.'}
			for r := first; r < first+0x200; r++ {
				if utf8.ValidRune(rune(r)) {
					l = append(l, rune(r))
				}
			}
			b, ok := sniff.Encode(x.enc, string(l))
			if !ok {
				t.Fatalf("Encode(%d, from %x on)", x.enc, first)
			}
			reads(t, "text/xml;charset="+x.name, b, string(l), x.enc)
			reads(t, "", marks[x.enc]+b, string(l), x.enc)
		}
	}
	for _, x := range all[3:] {
		for first := range 256 {
			for second := range 256 {
				b := one(first) + one(second)
				if b == "\xff\xfe" || b == "\xfe\xff" {
					continue
				}
				text, _ := sniff.Decode(x.enc, b)
				again, ok := sniff.Encode(x.enc, text)
				if !ok || again != b {
					t.Fatalf("Encode(%d, %q) = %q", x.enc, text, again)
				}
				reads(t, "text/xml;charset="+x.name, b, text, x.enc)
			}
		}
	}
}

// A charset that is a label makes a declaration count for nothing.
func TestDeclarationBehindCharset(t *testing.T) {
	values := []string{"", "none", "utf-16", "utf-16be", " l1 "}
	for _, x := range all {
		values = append(values, x.name)
	}
	for _, x := range all[3:] {
		for _, value := range values {
			s := "<?xml version='1.0' encoding='" + value + "'?>"
			for _, rest := range []string{"", "\xa1", "\xe9\xff\x80"} {
				text, _ := sniff.Decode(x.enc, s+rest)
				reads(t, "text/xml;charset="+x.name, s+rest, text, x.enc)
			}
		}
	}
	for _, value := range values {
		s := "<?xml version='1.0' encoding='" + value + "'?>\u00e9"
		reads(t, "text/xml;charset=utf-8", s, s, api.Utf8)
		text, _ := sniff.Decode(api.Utf16le, s)
		if len(s)%2 == 0 {
			reads(t, "text/xml;charset=utf-16", s, text, api.Utf16le)
		} else {
			reads(t, "text/xml;charset=utf-16", s, text, api.Utf16le, bytes(len(s)-1))
		}
	}
}
