package declare_test

import (
	"regexp"
	"slices"
	"strings"
	"testing"

	"carding/api"
	"carding/declare"
)

// beginning is what stands at the front of a body, and the encoding it tells.
type beginning struct {
	enc   int8
	bytes string
}

// marks and shapes are the chapter's.
var (
	marks  = []beginning{{api.Utf8, "\xef\xbb\xbf"}, {api.Utf16le, "\xff\xfe"}, {api.Utf16be, "\xfe\xff"}}
	shapes = []beginning{{api.Utf16le, "\x3c\x00\x3f\x00"}, {api.Utf16be, "\x00\x3c\x00\x3f"}}
)

// The chapter's words of a declaration and of its parts.
var (
	whole = regexp.MustCompile(`(?s)\A<\?xml([\t\n\r ].*?|)\?>`)
	piece = regexp.MustCompile(`\A[\t\n\r ]+([a-z]+)[\t\n\r ]*=[\t\n\r ]*("[^"]*"|'[^']*')`)
)

// one gives the text of one byte.
func one(c int) string { return string([]byte{byte(c)}) }

// behind are bytes that may stand behind anything.
func behind() []string {
	return []string{"", "a", "<?xml encoding='a'?>", "\x00", "\xff", "\xbf", "<a/>", strings.Repeat("\xef\xbb\xbf", 3), strings.Repeat("?>", 300)}
}

// rows gives each text of at most n of the pieces to a function.
func rows(pieces []string, n int, each func(string)) {
	each("")
	if n == 0 {
		return
	}
	for _, p := range pieces {
		rows(pieces, n-1, func(s string) { each(p + s) })
	}
}

// at gives the one of the beginnings that stands at the front.
func at(b string, of []beginning) (beginning, bool) {
	for _, x := range of {
		if len(b) >= len(x.bytes) && b[:len(x.bytes)] == x.bytes {
			return x, true
		}
	}
	return beginning{}, false
}

// scanned gives the parts of a declaration by the chapter's words, and whether there is one.
func scanned(b string) (l [][2]string, ok bool) {
	if len(b) > 200 {
		b = b[:200]
	}
	found := whole.FindStringSubmatch(b)
	if found == nil || found[1] == "" {
		return nil, false
	}
	for rest := found[1]; ; {
		p := piece.FindStringSubmatch(rest)
		if p == nil {
			return l, true
		}
		l = append(l, [2]string{p[1], p[2][1 : len(p[2])-1]})
		rest = rest[len(p[0]):]
	}
}

// marked holds Mark and Cut against what is wanted.
func marked(t *testing.T, b string, enc int8, n int, ok bool) {
	t.Helper()
	if e, m, is := declare.Mark(b); e != enc || m != n || is != ok {
		t.Errorf("Mark(%.250q) = %d, %d, %v; want %d, %d, %v", b, e, m, is, enc, n, ok)
	}
	if s := declare.Cut(b); s != b[n:] {
		t.Errorf("Cut(%.250q) = %.250q; want %.250q", b, s, b[n:])
	}
}

// shaped holds Shape against what is wanted.
func shaped(t *testing.T, b string, enc int8, ok bool) {
	t.Helper()
	if e, is := declare.Shape(b); e != enc || is != ok {
		t.Errorf("Shape(%.250q) = %d, %v; want %d, %v", b, e, is, enc, ok)
	}
}

// has holds Parts and Scan against parts: names and values by turns.
func has(t *testing.T, b string, words ...string) {
	t.Helper()
	var l [][2]string
	label, ok := "", false
	for i := 0; i < len(words); i += 2 {
		l = append(l, [2]string{words[i], words[i+1]})
		if words[i] == "encoding" && !ok {
			label, ok = words[i+1], true
		}
	}
	if got := declare.Parts(b); !slices.Equal(got, l) {
		t.Errorf("Parts(%.250q) = %q; want %q", b, got, l)
	}
	if got, is := declare.Scan(b); got != label || is != ok {
		t.Errorf("Scan(%.250q) = %q, %v; want %q, %v", b, got, is, label, ok)
	}
}

// holds holds all calls against the chapter's words.
func holds(t *testing.T, b string) {
	t.Helper()
	m, isMark := at(b, marks)
	marked(t, b, m.enc, len(m.bytes), isMark)
	s, isShape := at(b, shapes)
	shaped(t, b, s.enc, isShape)
	l, isDeclared := scanned(b)
	var words []string
	for _, p := range l {
		words = append(words, p[0], p[1])
	}
	has(t, b, words...)
	if isMark && isShape || isMark && isDeclared || isShape && isDeclared {
		t.Errorf("%q has two of a mark, a shape and a declaration", b)
	}
}

// P7.1

func TestMark(t *testing.T) {
	for _, m := range marks {
		for _, x := range behind() {
			marked(t, m.bytes+x, m.enc, len(m.bytes), true)
		}
		for _, x := range []string{"a", " ", "\x00", "\n", "<", "\x7f", "\x80", "\xef", "<?xml "} {
			marked(t, x+m.bytes, 0, 0, false)
			marked(t, x+m.bytes+"a", 0, 0, false)
		}
		for n := range len(m.bytes) {
			marked(t, m.bytes[:n], 0, 0, false)
			marked(t, m.bytes[:n]+"a", 0, 0, false)
			marked(t, m.bytes[n+1:], 0, 0, false)
			marked(t, m.bytes[:n]+m.bytes[n+1:]+"a", 0, 0, false)
		}
		for _, x := range marks {
			marked(t, m.bytes+x.bytes, m.enc, len(m.bytes), true)
			marked(t, m.bytes+x.bytes+x.bytes+"a", m.enc, len(m.bytes), true)
			if s := declare.Cut(declare.Cut(m.bytes + x.bytes + "a")); s != "a" {
				t.Errorf("a mark behind a mark: %q", s)
			}
		}
		for _, x := range shapes {
			marked(t, m.bytes+x.bytes, m.enc, len(m.bytes), true)
			marked(t, x.bytes+m.bytes, 0, 0, false)
		}
	}
	for _, b := range []string{"", "a", "<?xml?>", "\xef", "\xef\xbb", "\xff", "\xfe", "\xbb\xbf", "\xff\xff", "\xfe\xfe", "\x00\x00\xfe\xff", "\u00fe\u00ff", "\u00ef\u00bb\u00bf", "\u00ff\u00fe", "EFBBBF", "FFFE", "\xbf\xbb\xef"} {
		marked(t, b, 0, 0, false)
	}
	marked(t, "\ufeff", api.Utf8, 3, true)
	marked(t, "\xff\xfe\x00\x00", api.Utf16le, 2, true)
}

func TestMarkEveryByte(t *testing.T) {
	for _, m := range marks {
		for i := range len(m.bytes) {
			for c := range 256 {
				b := m.bytes[:i] + one(c) + m.bytes[i+1:]
				holds(t, b)
				holds(t, b+"a")
				if one(c) != m.bytes[i:i+1] {
					marked(t, b+"a", 0, 0, false)
				}
			}
		}
	}
	for c := range 1 << 16 {
		holds(t, one(c>>8)+one(c))
		holds(t, one(c>>8)+one(c)+"\xbf")
	}
}

func TestShape(t *testing.T) {
	for _, s := range shapes {
		for _, x := range behind() {
			shaped(t, s.bytes+x, s.enc, true)
		}
		for _, x := range []string{"a", " ", "\n", "<", "?", "\xff", "<?xml "} {
			shaped(t, x+s.bytes, 0, false)
			shaped(t, x+s.bytes+"a", 0, false)
		}
		for n := range len(s.bytes) {
			shaped(t, s.bytes[:n], 0, false)
			shaped(t, s.bytes[:n]+"a", 0, false)
			shaped(t, s.bytes[n+1:], 0, false)
			shaped(t, s.bytes[:n]+s.bytes[n+1:]+"a", 0, false)
			for c := range 256 {
				b := s.bytes[:n] + one(c) + s.bytes[n+1:]
				holds(t, b)
				holds(t, b+"a")
				if one(c) != s.bytes[n:n+1] {
					shaped(t, b+"a", 0, false)
				}
			}
		}
		for _, m := range marks {
			shaped(t, m.bytes+s.bytes, 0, false)
			shaped(t, m.bytes+s.bytes+"a", 0, false)
		}
	}
	shaped(t, "\x00"+shapes[0].bytes, api.Utf16be, true)
	shaped(t, "\x00"+shapes[1].bytes, 0, false)
	shaped(t, shapes[0].bytes+shapes[1].bytes, api.Utf16le, true)
	shaped(t, shapes[1].bytes+shapes[0].bytes, api.Utf16be, true)
	for _, b := range []string{"", "<?", "<?xml", "<?xml encoding='utf-16'?>", "<\x00?", "\x00<\x00", "<\x00\x00\x00?\x00\x00\x00", "\x00\x00\x00<\x00\x00\x00?", "<\x00\x00?", "\x00<?\x00", "?\x00<\x00", "\x00?\x00<", "\x3c\x30\x3f\x30"} {
		shaped(t, b, 0, false)
	}
}

// P7.2

func TestParts(t *testing.T) {
	has(t, `<?xml ?>`)
	has(t, `<?xml version="1.0"?>`, "version", "1.0")
	has(t, `<?xml version="1.0" encoding='latin1'?>`, "version", "1.0", "encoding", "latin1")
	has(t, `<?xml version="1.0" encoding='latin1' standalone="yes" ?><a/>`, "version", "1.0", "encoding", "latin1", "standalone", "yes")
	has(t, `<?xml encoding='utf-8' version="1.0"?>`, "encoding", "utf-8", "version", "1.0")
	has(t, `<?xml standalone='no' version="1.0" encoding="l9"?>`, "standalone", "no", "version", "1.0", "encoding", "l9")
	has(t, `<?xml encoding='a' encoding='b'?>`, "encoding", "a", "encoding", "b")
	has(t, `<?xml a='1' encoding='' encoding='b' encoding='c'?>`, "a", "1", "encoding", "", "encoding", "b", "encoding", "c")
	has(t, `<?xml encoding=''?>`, "encoding", "")
	has(t, `<?xml encoding=""?>`, "encoding", "")
	has(t, `<?xml a=''?>`, "a", "")
	has(t, `<?xml encodings='a'?>`, "encodings", "a")
	has(t, `<?xml aencoding='a' encodin='b' ncoding='c' encodingencoding='d'?>`, "aencoding", "a", "encodin", "b", "ncoding", "c", "encodingencoding", "d")
	has(t, `<?xml encodin='a' encodings='b' encoding='c'?>`, "encodin", "a", "encodings", "b", "encoding", "c")
	has(t, `<?xml a='encoding' b='encoding="c"'?>`, "a", "encoding", "b", `encoding="c"`)
	has(t, `<?xml xml='xml'?>`, "xml", "xml")
	long := strings.Repeat("abcdefghijklmnopqrstuvwxyz", 6)
	has(t, `<?xml `+long+`='c'?>`, long, "c")
	has(t, `<?xml a='`+long+`'?>`, "a", long)
	has(t, `<?xml encoding='`+long+`'?>`, "encoding", long)
}

func TestPartsMany(t *testing.T) {
	b, words := "<?xml", []string(nil)
	for c := 'a'; c <= 'z'; c++ {
		b += " " + string(c) + "='" + string(c) + "'"
		words = append(words, string(c), string(c))
		has(t, b+"?>", words...)
	}
	words = nil
	for n := range 32 {
		has(t, "<?xml"+strings.Repeat(" a=''", n)+" ?>", words...)
		words = append(words, "a", "")
	}
}

func TestPartsWhite(t *testing.T) {
	some := []string{"\t", "\n", "\r", " ", "  ", "\t\t", "\n\n", "\r\r", "\r\n", "\t\n\r ", " \r\n\t", strings.Repeat(" ", 20), strings.Repeat("\t\n\r ", 5)}
	for _, w := range some {
		has(t, "<?xml"+w+"?>")
		has(t, "<?xml"+w+"encoding='a'?>", "encoding", "a")
		has(t, "<?xml encoding"+w+"='a'?>", "encoding", "a")
		has(t, "<?xml encoding="+w+"'a'?>", "encoding", "a")
		has(t, "<?xml encoding='a'"+w+"?>", "encoding", "a")
		has(t, "<?xml a='b'"+w+"encoding='c'?>", "a", "b", "encoding", "c")
		has(t, "<?xml encoding='"+w+"'?>", "encoding", w)
		has(t, "<?xml encoding=\"a"+w+"b\"?>", "encoding", "a"+w+"b")
		has(t, "<?xml a='"+w+"' b=\""+w+"\"?>", "a", w, "b", w)
		for _, x := range some {
			has(t, "<?xml"+w+"encoding"+x+"="+w+"'a'"+x+"?>", "encoding", "a")
			has(t, "<?xml"+w+"a"+x+"="+x+"'b'"+w+"encoding"+w+"="+w+"\"c\""+x+"?>", "a", "b", "encoding", "c")
		}
	}
	has(t, "<?xml\tencoding\n=\r'a' ?>", "encoding", "a")
}

func TestPartsQuotes(t *testing.T) {
	for _, value := range []string{"", "a", " ", " a ", "a b", "\t\n\r", "<", ">", "<a/>", "=", "a=b", "?", "??", "? >", ">?", "&amp;", "&#38;", "/", "\\", "\x00", "\x7f", "é", "\u20ac", "\U0001f600", "\u00a0", "\xff", "\x80\xe9", "\xef\xbb\xbf", "\xc3", "<?xml ", "encoding", "encoding=x", "UTF-8", "utf_8", "A", "1"} {
		has(t, "<?xml encoding='"+value+"'?>", "encoding", value)
		has(t, "<?xml encoding=\""+value+"\"?>", "encoding", value)
		has(t, "<?xml encoding='"+value+"\"'?>", "encoding", value+"\"")
		has(t, "<?xml encoding=\"'"+value+"\"?>", "encoding", "'"+value)
		has(t, "<?xml a='"+value+"' b=\""+value+"\"?>", "a", value, "b", value)
		has(t, "<?xml a='\""+value+"\"' encoding=\"'"+value+"'\"?>", "a", "\""+value+"\"", "encoding", "'"+value+"'")
		has(t, "<?xml encoding='"+value+"?>")
		has(t, "<?xml encoding=\""+value+"?>")
		has(t, "<?xml encoding='"+value+"\"?>")
		has(t, "<?xml encoding=\""+value+"'?>")
		has(t, "<?xml encoding="+value+"'a?>")
	}
	has(t, `<?xml a="'" b='"'?>`, "a", "'", "b", `"`)
	has(t, `<?xml a="'" b='?>`, "a", "'")
	has(t, `<?xml a='''?>`, "a", "")
	has(t, `<?xml a='' b=''' c='d'?>`, "a", "", "b", "")
	has(t, `<?xml a='b"c"d'?>`, "a", `b"c"d`)
	has(t, "<?xml encoding=`a`?>")
	has(t, "<?xml encoding=\u201ca\u201d?>")
}

func TestPartsEveryByte(t *testing.T) {
	const b = "<?xml a= \"b\" encoding ='c' ?>"
	for i := 0; i <= len(b); i++ {
		for c := range 256 {
			holds(t, b[:i]+one(c)+b[i:])
			holds(t, b[:i]+one(c)+b[min(i+1, len(b)):])
		}
		holds(t, b[:i])
		holds(t, b[i:])
		holds(t, b[:i]+b[min(i+1, len(b)):])
		for j := 0; j <= len(b); j++ {
			holds(t, b[:i]+b[j:])
		}
	}
	for c := range 256 {
		s := one(c)
		switch {
		case strings.Contains("\t\n\r ", s):
			has(t, "<?xml"+s+"a='b'"+s+"c"+s+"="+s+"'d'"+s+"?>", "a", "b", "c", "d")
		case s >= "a" && s <= "z":
			has(t, "<?xml "+s+"='b' x"+s+"y='z'?>", s, "b", "x"+s+"y", "z")
		default:
			has(t, "<?xml"+s+"a='b'?>")
			has(t, "<?xml "+s+"='b'?>")
			has(t, "<?xml x"+s+"y='b'?>")
			has(t, "<?xml x='y'"+s+"a='b'?>", "x", "y")
			has(t, "<?xml x='y' "+s+"a='b'?>", "x", "y")
		}
	}
}

func TestPartsRows(t *testing.T) {
	rows([]string{" ", "a", "=", "'", `"`, "encoding", "?", ">", "\n", "A", "\xff"}, 5, func(s string) {
		holds(t, "<?xml"+s+"?>")
		holds(t, "<?xml a='b'"+s+"?>")
	})
	rows([]string{"<", "?", "xml", " ", "?>", "a='b'", "\xef\xbb\xbf", "\x00"}, 5, func(s string) {
		holds(t, s)
		holds(t, "<?xml"+s)
	})
	rows([]string{" encoding='c'", " a=\"b\"", " ", "a", "?>"}, 6, func(s string) { holds(t, "<?xml"+s+"?>") })
}

// The first ?> ends a declaration, wherever it stands.
func TestPartsEnd(t *testing.T) {
	has(t, `<?xml ?> encoding='a'?>`)
	has(t, `<?xml ?>?>`)
	has(t, `<?xml encoding='a'?> b='c'?>`, "encoding", "a")
	has(t, `<?xml encoding='a?>'?>`)
	has(t, `<?xml encoding='?>'?>`)
	has(t, `<?xml encoding='?>`)
	has(t, `<?xml a='b' encoding='c?>d' e='f'?>`, "a", "b")
	has(t, `<?xml a?>='b'?>`)
	has(t, `<?xml a=?>'b'?>`)
	has(t, `<?xml a='b' ?>c='d'?>`, "a", "b")
	has(t, `<?xml encoding='a'??>`, "encoding", "a")
	has(t, `<?xml encoding='a'>?>`, "encoding", "a")
	has(t, `<?xml encoding='a>?'?>`, "encoding", "a>?")
	has(t, `<?xml encoding='a?'?>`, "encoding", "a?")
	has(t, `<?xml encoding='?'>'?>`, "encoding", "?")
	for _, b := range []string{`<?xml encoding='a'`, `<?xml encoding='a'?`, `<?xml encoding='a'>`, `<?xml encoding='a'? >`, `<?xml encoding='a'>?`, `<?xml encoding='a'??`, `<?xml encoding='a' ?<a/>`, `<?xml encoding='a'/>`, `<?xml encoding='a'?` + "\x00>", `<?xml `, `<?xml ?`, `<?xml >`, `<?xml encoding='a'` + "?\xff>", "<?xml encoding='a'\uff1f>"} {
		has(t, b)
		has(t, b+"<a/>")
	}
}

func TestPartsFront(t *testing.T) {
	const b = "<?xml encoding='a'?>"
	has(t, b, "encoding", "a")
	for _, x := range []string{" ", "\t", "\n", "\r", "a", "<", "<?", "<?xml", "\x00", "\xff", "\xef\xbb\xbf", "\xff\xfe", "\xfe\xff", "\xef\xbb", "\u00a0", "<!-- -->", "<a/>", "?>"} {
		has(t, x+b)
		holds(t, x+b)
	}
	has(t, "<?xml"+b)
	has(t, "<?xml "+b)
	has(t, b+b, "encoding", "a")
	for _, front := range []string{"", "<", "<?", "<?x", "<?xm", "?xml", "xml", "<xml", "<?XML", "<?Xml", "<?xmL", "< ?xml", "<? xml", "<?xml-stylesheet", "<?xmlx", "<?xml?", "<?xml?>", "<?xml=", "<!xml", "<?\x00xml", "<?xml\x0b", "<?xml\x0c", "<?xml\x00", "<?xml\xa0", "<?xml\u00a0", "<?xml\u2003", "<?xml\x85", "<?xml\x1f", "<?xml\x7f"} {
		has(t, front+" encoding='a'?>")
		has(t, front)
		has(t, front+"?>")
	}
	for _, x := range []string{"<?xml", "<?xm", "<?XML", "<?xmlencoding='a'?>", "<?xml'a'?>", "<?xml=encoding='a'?>", "<?xml/ encoding='a'?>"} {
		has(t, x)
	}
}

// At a part that is none the parts end; those ahead are told.
func TestPartsWrong(t *testing.T) {
	wrong := []string{
		"encoding=a", "encoding=a'b'", "encoding", "encoding 'a'", "encoding'a'", "encoding:'a'", "encoding='a", "encoding=\"a'", "encoding='a\"", "encoding=", "encoding= ", "encoding==", "encoding=='a'", "=", "='a'", "= 'a'", "'a'", "\"a\"", "Encoding='a'", "ENCODING='a'", "encodinG='a'",
		"encoding1='a'", "1encoding='a'", "en1coding='a'", "en-coding='a'", "-encoding='a'", "encoding_='a'", "_encoding='a'", "xml:encoding='a'", ":encoding='a'", "encoding:='a'", "encoding.='a'", "enc oding='a'", "encoding a='b'", "encodingé='a'", "é='a'", "\xff='a'", "encoding\xff='a'", "encoding=\xff'a'",
		"encoding\x0b='a'", "encoding\x0c='a'", "encoding\x00='a'", "encoding\xa0='a'", "encoding\u00a0='a'", "encoding=\x0b'a'", "encoding=\x0c'a'", "encoding=\x00'a'", "encoding=\xa0'a'", "encoding=\u00a0'a'", "\x0bencoding='a'", "\x0cencoding='a'", "\x00encoding='a'", "\xa0encoding='a'", "\u00a0encoding='a'", "?", ">", "<", "/", "&", "?encoding='a'",
	}
	for _, x := range wrong {
		has(t, "<?xml "+x+"?>")
		has(t, "<?xml "+x+" ?>")
		has(t, "<?xml a='b' "+x+"?>", "a", "b")
		has(t, "<?xml a='b' encoding='c' "+x+"?>", "a", "b", "encoding", "c")
		holds(t, "<?xml a='b' "+x+" c='d'?>")
		holds(t, "<?xml "+x+" encoding=\"d\" e='f'?>")
	}
	for _, x := range []string{"a=b", "a", "A='b'", "a-b='c'", "a'b'", "='a'", "a1='b'", "\xff", "é='a'", "'b'", "?", "a \x0b='b'"} {
		has(t, "<?xml "+x+" encoding='c'?>")
		has(t, "<?xml d='e' "+x+" encoding='c'?>", "d", "e")
		has(t, "<?xml encoding='e' "+x+" encoding='c' f='g'?>", "encoding", "e")
	}
	has(t, `<?xml encoding=latin1?>`)
	has(t, `<?xml a='1'b='2' c='3'?>`, "a", "1")
	has(t, `<?xml a='1'encoding='2'?>`, "a", "1")
	has(t, `<?xml encoding='1'encoding='2' c='3'?>`, "encoding", "1")
	has(t, `<?xml a='1' b="2"c='3' d='4'?>`, "a", "1", "b", "2")
	has(t, `<?xml a='1'"2"?>`, "a", "1")
	has(t, `<?xml version=1 encoding='a'?>`)
}

// P7.2: all of a declaration stands within the first MaxScan bytes.
func TestPartsLimit(t *testing.T) {
	if api.MaxScan != 200 {
		t.Fatal(api.MaxScan)
	}
	const part = " encoding='a'"
	for n := range 300 {
		pad := strings.Repeat(" ", n)
		value := strings.Repeat("v", n)
		for _, tail := range []string{"", ">", "?>", "<a/>", strings.Repeat("x", 4096), strings.Repeat(" encoding='b'?>", 20)} {
			if 5+n+13+2 <= 200 {
				has(t, "<?xml"+pad+part+"?>"+tail, "encoding", "a")
				has(t, "<?xml"+part+pad+"?>"+tail, "encoding", "a")
				has(t, "<?xml abcd='"+value+"' e=''?>"+tail, "abcd", value, "e", "")
			} else {
				has(t, "<?xml"+pad+part+"?>"+tail)
				has(t, "<?xml"+part+pad+"?>"+tail)
				has(t, "<?xml abcd='"+value+"' e=''?>"+tail)
			}
		}
	}
	b := "<?xml" + part + strings.Repeat("\n", 180) + "?>"
	if len(b) != 200 {
		t.Fatal(len(b))
	}
	has(t, b, "encoding", "a")
	has(t, b+"?>", "encoding", "a")
	has(t, b[:199])
	has(t, b[:199]+"\n?>")
	has(t, b[:199]+"?>")
	has(t, b[:198]+" ?>")
	has(t, b[:198]+"xx?>")
	has(t, b[:198]+"é?>")
	has(t, "\n"+b)
}

// P7.3

func TestWhatStandsBehind(t *testing.T) {
	tails := []string{"", "a", "'", "\"", "?", ">", "?>", " b='c'?>", " encoding='c'?>", "<?xml encoding='c'?>", "\x00", "\xff\xfe", "\xef\xbb\xbf", "<a>\n</a>", strings.Repeat(" encoding='c'", 40) + "?>", strings.Repeat("é", 5000)}
	for _, b := range []string{"<?xml ?>", "<?xml?>", "<?xml a='b'?>", "<?xml encoding='a'?>", "<?xml encoding='a' b?>", "<?xml encoding='?>", "<?xml encoding=\"a?>", "<?xml encoding=?>"} {
		full := b + strings.Repeat("x", 200-len(b))
		open := b[:len(b)-2] + strings.Repeat("?", 202-len(b))
		for _, x := range tails {
			same(t, b, b+x)
			same(t, full, full+x)
			same(t, open, open+x)
			same(t, open[:199]+"'", open[:199]+"'"+x)
			same(t, open[:199]+">", open[:199]+">"+x)
		}
	}
	long := strings.Repeat("x", 1<<22)
	same(t, "<?xml encoding='a'?>", "<?xml encoding='a'?>"+long)
	same(t, "<?xml encoding='"+long, "<?xml encoding='"+long+"'?>")
	same(t, "<?xml encoding='"+long[:184], "<?xml encoding='"+long+"'?>")
	same(t, "<?xml "+strings.Repeat(" ", 1<<22), "<?xml "+strings.Repeat(" ", 1<<22)+"a='b'?>")
	same(t, "<?xml"+strings.Repeat(" a=''", 39), "<?xml"+strings.Repeat(" a=''", 1<<20)+"?>")
}

// same holds two bodies of which one declaration is told.
func same(t *testing.T, a, b string) {
	t.Helper()
	one, is := declare.Scan(a)
	other, isToo := declare.Scan(b)
	if one != other || is != isToo || !slices.Equal(declare.Parts(a), declare.Parts(b)) {
		t.Errorf("%.60q: %q, %q; %q, %q", a, one, declare.Parts(a), other, declare.Parts(b))
	}
	if len(b) < 1000 {
		holds(t, a)
		holds(t, b)
	}
}

func TestNeverTogether(t *testing.T) {
	fronts := []string{"<?xml a='b'?>", "<?xml encoding='c'?>"}
	for _, l := range [][]beginning{marks, shapes} {
		for _, x := range l {
			fronts = append(fronts, x.bytes)
		}
	}
	for _, front := range fronts {
		for _, next := range fronts {
			for _, third := range fronts {
				b := front + next + third
				n := 0
				if _, _, ok := declare.Mark(b); ok {
					n++
				}
				if _, ok := declare.Shape(b); ok {
					n++
				}
				if declare.Parts(b) != nil {
					n++
				}
				if n != 1 {
					t.Errorf("%q: %d", b, n)
				}
				holds(t, b)
				holds(t, b[1:])
			}
		}
	}
}

// An answer of Parts is new: a change of it is not seen in the next one.
func TestPartsAreNew(t *testing.T) {
	const b = "<?xml a='b' encoding='c'?>"
	l := declare.Parts(b)
	again := declare.Parts(b)
	l[0], l[1][0], l[1][1] = [2]string{}, "x", "y"
	_ = append(l[:1], [2]string{"e", "f"})
	if want := [][2]string{{"a", "b"}, {"encoding", "c"}}; !slices.Equal(again, want) {
		t.Error(again)
	}
	has(t, b, "a", "b", "encoding", "c")
}

func FuzzAll(f *testing.F) {
	for _, s := range []string{"", "<?xml version=\"1.0\" encoding='latin1'?>", "<?xml a = ''\tb='\"' ?><a/>", "\xef\xbb\xbf<?xml ?>", "<\x00?\x00", "\x00<\x00?", "\xff\xfe", "\xfe\xff"} {
		f.Add(s)
	}
	f.Fuzz(func(t *testing.T, s string) {
		holds(t, s)
		holds(t, "<?xml "+s)
		holds(t, "<?xml encoding='"+s+"'?>")
	})
}
