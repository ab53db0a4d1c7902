package sniff_test

import (
	"strings"
	"testing"

	"carding/api"
	"carding/sniff"
)

// What one way tells of the encoding: it, or that a label is none.
type way struct {
	s     string // what is written
	tells bool   // an encoding
	enc   int8
	wrong bool // a label that is none, so that the next way is asked
}

// charsets are parts of a Content-Type, ahead of which its type stands.
func charsets() []way {
	l := []way{
		{s: ""}, {s: ";"}, {s: "; a=b"}, {s: "; xcharset=latin1"}, {s: "; charsets=latin1"}, {s: "; a=charset; b=\"charset=latin1\""},
		{s: ";charset=none", wrong: true}, {s: ";charset=\"\"", wrong: true}, {s: ";charset=\" \"", wrong: true}, {s: ";charset=none; charset=latin1", wrong: true},
		{s: ";charset=utf", wrong: true}, {s: ";charset=utf-", wrong: true}, {s: ";charset=utf-80", wrong: true}, {s: ";charset=latin11", wrong: true}, {s: ";charset=xlatin1", wrong: true}, {s: ";charset=utf-7", wrong: true}, {s: ";charset=\"utf-8,\"", wrong: true},
		{s: "; charset=\"\x80\xff\"", wrong: true}, {s: "; charset='latin1'", wrong: true}, {s: ";charset=\"\\\"latin1\\\"\"", wrong: true}, {s: ";charset=\"lat in1\"", wrong: true}, {s: ";charset=\"\u00a0latin1\"", wrong: true}, {s: ";charset=shift_jis", wrong: true},
		{s: ";CHARSET=LATIN1", tells: true, enc: api.Win1252}, {s: ";a=b ; Charset=\"\\l\\9\"", tells: true, enc: api.Iso15}, {s: "; charset=cyrillic; charset=latin1;charset=none", tells: true, enc: api.Iso5}, {s: ";charset=ascii", tells: true, enc: api.Win1252},
		{s: ";charset=unicodefffe", tells: true, enc: api.Utf16be}, {s: ";charset=ucs-2", tells: true, enc: api.Utf16le}, {s: ";charset=utf8 \t;", tells: true, enc: api.Utf8},
	}
	for _, x := range all {
		for _, s := range []string{x.name, strings.ToUpper(x.name), "\"" + x.name + "\"", "\" \t" + x.name + "\t\"", "\"" + strings.ToUpper(x.name) + " \"; charset=none"} {
			l = append(l, way{s: "; charset=" + s, tells: true, enc: x.enc})
		}
	}
	return l
}

// declarations are what a body may declare, or what is no declaration of an encoding.
func declarations() []way {
	l := []way{
		{s: ""}, {s: "a"}, {s: "<a/>"}, {s: "<?xml?>"}, {s: "<?xml ?>"}, {s: "<?xml version='1.0'?>"}, {s: "<?xml encoding=latin1?>"}, {s: "<?xml encoding='latin1'"}, {s: "<?xml encoding='latin1?>"},
		{s: "<?xml Encoding='latin1'?>"}, {s: "<?xmlencoding='latin1'?>"}, {s: "<?XML encoding='latin1'?>"}, {s: " <?xml encoding='latin1'?>"}, {s: "<a/><?xml encoding='none'?>"}, {s: "<?xml encodings='latin1'?>"},
		{s: "<?xml" + strings.Repeat(" ", 200) + "encoding='latin1'?>"}, {s: "<?xml" + strings.Repeat(" ", 200) + "encoding='none'?>"}, {s: "<?xml encoding='latin1'" + strings.Repeat(" ", 176) + "?>"}, {s: "<?xml encoding='none'" + strings.Repeat("\n", 200) + "?>"}, {s: strings.Repeat(" ", 200) + "<?xml encoding='latin1'?>"},
		{s: "<?xml encoding=''?>", wrong: true}, {s: "<?xml encoding=' '?>", wrong: true}, {s: "<?xml encoding='none'?>", wrong: true}, {s: "<?xml encoding='none' encoding='latin1'?>", wrong: true}, {s: "<?xml encoding='latin11'?>", wrong: true}, {s: "<?xml encoding='utf-'?>", wrong: true}, {s: "<?xml encoding='\xff'?>", wrong: true}, {s: "<?xml encoding='\"l1\"'?>", wrong: true},
		{s: "<?xml encoding='ucs-2'?>", wrong: true}, {s: "<?xml encoding='unicode'?>", wrong: true}, {s: "<?xml encoding=' UTF-16LE\t'?>", wrong: true}, {s: "<?xml encoding='unicodefffe'?>", wrong: true}, {s: "<?xml encoding='utf-16' encoding='l1'?>", wrong: true},
		{s: "<?xml encoding='latin1'" + strings.Repeat(" ", 175) + "?>", tells: true, enc: api.Win1252}, {s: "<?xml encoding='cyrillic' encoding='none'?>", tells: true, enc: api.Iso5}, {s: "<?xml encoding=' \r\n\fL9\t'?>", tells: true, enc: api.Iso15},
	}
	for _, x := range all {
		for _, value := range []string{x.name, strings.ToUpper(x.name), " " + x.name + "\n"} {
			w := way{s: "<?xml version=\"1.0\" encoding=\"" + value + "\"?><a>\xe9</a>", tells: true, enc: x.enc}
			if x.enc == api.Utf16le || x.enc == api.Utf16be {
				w.tells, w.enc, w.wrong = false, 0, true
			}
			l = append(l, w)
		}
	}
	return l
}

// shapes are bodies of a shape, with declarations of that shape behind: they are not asked.
func shapes() []way {
	var l []way
	for _, s := range []string{"<?", "<?xml", "<?xml version='1.0'?><a/>", "<?xml encoding='latin1'?>", "<?xml encoding='none'?>", "<?xml encoding='utf-16'?>", "<?xml encoding='utf-16be'?>"} {
		l = append(l, way{s: wide(s), tells: true, enc: api.Utf16le}, way{s: turned(wide(s)), tells: true, enc: api.Utf16be})
	}
	l = append(l, way{s: "<\x00?\x00<?xml encoding='none'?>", tells: true, enc: api.Utf16le}, way{s: "\x00<\x00?<?xml encoding='none'?>", tells: true, enc: api.Utf16be})
	for _, s := range []string{"<\x00?", "<\x00", "\x00<\x00", "\x00<", "<\x00?<", "<\x00\x00?", "\x00<?\x00", " <\x00?\x00", "a\x00<\x00?"} {
		l = append(l, way{s: s})
	}
	return l
}

// asked tells what all ways together tell: the first one that tells an encoding.
func asked(isMedia bool, ways ...way) (enc int8, l []api.Reason) {
	if isMedia {
		l = append(l, media)
	}
	for _, w := range ways {
		if w.tells {
			return w.enc, l
		}
		if w.wrong {
			l = append(l, label)
		}
	}
	return api.Utf8, l
}

// P8.1

func TestEncoding(t *testing.T) {
	finds(t, "text/xml; charset=latin1", "\xef\xbb\xbf\x61", api.Utf8, 3)
	finds(t, "text/xml; charset=none", "\x61", api.Utf8, 0, label)
	finds(t, "text/xml", "\xff\xfea\x00", api.Utf16le, 2)
	finds(t, "text/xml", "\xfe\xff\x00a", api.Utf16be, 2)
	finds(t, "", "a", api.Utf8, 0)
	finds(t, "", "", api.Utf8, 0)
	finds(t, "text/xml;charset=utf-16", "", api.Utf16le, 0)
	finds(t, "text/xml;charset=utf-16be", "\xff\xfea\x00", api.Utf16le, 2)
	finds(t, "text/xml;charset=utf-8", "\xff\xfea\x00", api.Utf16le, 2)
	finds(t, "", "<\x00?\x00", api.Utf16le, 0)
	finds(t, "", "\x00<\x00?", api.Utf16be, 0)
	finds(t, "", "<?xml encoding='latin1'?>", api.Win1252, 0)
	finds(t, "", "<?xml encoding='utf-16'?>", api.Utf8, 0, label)
	finds(t, "", "<?xml encoding='utf-16be'?>", api.Utf8, 0, label)
	finds(t, "", "<?xml encoding='none'?>", api.Utf8, 0, label)
	finds(t, "", "<?xml encoding=''?>", api.Utf8, 0, label)
	finds(t, "text/xml;charset=x", "<?xml encoding='y'?>", api.Utf8, 0, label, label)
	finds(t, "text/html;charset=x", "<?xml encoding='y'?>", api.Utf8, 0, media, label, label)
	finds(t, "text/html;charset=latin1", "a", api.Win1252, 0, media)
	finds(t, "no;charset=latin1", "a", api.Utf8, 0, media)
	finds(t, "no;charset=none", "a", api.Utf8, 0, media)
	finds(t, "text/xml;charset=none", "<\x00?\x00", api.Utf16le, 0, label)
	finds(t, "text/xml;charset=none", "\x00<\x00?", api.Utf16be, 0, label)
	finds(t, "text/xml;charset=none", "<?xml encoding='latin1'?>", api.Win1252, 0, label)
	finds(t, "text/xml;charset=l9", "<?xml encoding='none'?>", api.Iso15, 0)
	finds(t, "text/xml;charset=none", "\xef\xbb\xbf<?xml encoding='none'?>", api.Utf8, 3)
	finds(t, "text/html;charset=none", "\xfe\xff<?xml encoding='none'?>", api.Utf16be, 2, media)
}

// Every way to an encoding by itself, and all of them at once.
func TestEncodingWays(t *testing.T) {
	fronts := append(shapes(), declarations()...)
	for _, charset := range charsets() {
		for _, front := range fronts {
			for _, kind := range []string{"text/xml", " application/XML", "a/b+xml ", "text/html", "application/octet-stream"} {
				isMedia := strings.HasPrefix(kind, "text/h") || strings.HasPrefix(kind, "application/o")
				enc, l := asked(isMedia, charset, front)
				finds(t, kind+charset.s, front.s, enc, 0, l...)
				for of, m := range marks {
					_, l := asked(isMedia)
					finds(t, kind+charset.s, m+front.s, of, len(m), l...)
				}
			}
		}
	}
	for _, front := range fronts {
		for _, kind := range []string{"", " ", "\t", " \t \t"} {
			enc, l := asked(false, front)
			finds(t, kind, front.s, enc, 0, l...)
			for of, m := range marks {
				finds(t, kind, m+front.s, of, len(m))
			}
		}
	}
}

// A Content-Type that can't be parsed has no charset.
func TestEncodingNoContentType(t *testing.T) {
	kinds := []string{"no", "no;charset=latin1", "no; charset=none", "text/xml;charset", "text/xml;charset=", "text/xml;charset=latin1,", "text/xml,charset=latin1", "text/xml; charset=latin1 a", "text/xml; charset = latin1", "text/xml charset=latin1", "text/;charset=latin1", "/xml;charset=latin1", ";charset=latin1", "charset=latin1", "latin1", "text/xml;charset=\"latin1", "text/xml;charset=latin1\"", "text/xml;charset=latin1;a", "text/xml;charset=latin1\n", "\n", "\r\n", "\x00", "\x0b", "\f", "\u00a0", "\xff", "text/xml\n", "\ntext/xml;charset=latin1"}
	for _, kind := range kinds {
		for _, front := range append(shapes(), declarations()...) {
			enc, l := asked(true, front)
			finds(t, kind, front.s, enc, 0, l...)
			for of, m := range marks {
				finds(t, kind, m+front.s, of, len(m), media)
			}
		}
	}
}

// A charset counts in whatever type it is told.
func TestEncodingOtherTypes(t *testing.T) {
	for _, kind := range []string{"text/html", "text/plain", "a/b", "application/json", "text/xmlx", "text/xml+a", "x/xml"} {
		for _, x := range all {
			finds(t, kind+";charset="+x.name, "<?xml encoding='none'?>", x.enc, 0, media)
			finds(t, kind+";charset=none", "<?xml encoding='"+x.name+"'?>", map[int8]int8{api.Win1252: api.Win1252, api.Iso5: api.Iso5, api.Iso15: api.Iso15}[x.enc], 0, append([]api.Reason{media, label}, map[int8][]api.Reason{api.Utf16le: {label}, api.Utf16be: {label}}[x.enc]...)...)
		}
	}
}

func TestEncodingMark(t *testing.T) {
	for enc, m := range marks {
		for _, rest := range []string{"", "a", m, "\xff\xfe", "\xfe\xff", "\xef\xbb\xbf", "<?xml encoding='latin1'?>", "<\x00?\x00", strings.Repeat("a", 9999)} {
			finds(t, "", m+rest, enc, len(m))
		}
		for n := range len(m) {
			finds(t, "", m[:n], api.Utf8, 0)
			finds(t, "", m[:n]+"a", api.Utf8, 0)
			finds(t, "text/xml;charset=l1", m[:n], api.Win1252, 0)
		}
		finds(t, "text/xml;charset=l1", "a"+m, api.Win1252, 0)
		finds(t, "text/xml;charset=l1", "\x00"+m, api.Win1252, 0)
	}
	finds(t, "", "\xef\xbb\xbe", api.Utf8, 0)
	finds(t, "", "\xff\xff", api.Utf8, 0)
	finds(t, "", "\xfe\xfe", api.Utf8, 0)
}

func TestEncodingLong(t *testing.T) {
	long := strings.Repeat("x", 1<<18)
	finds(t, "text/"+long+"+xml;charset=l1", long, api.Win1252, 0)
	finds(t, "text/"+long+";charset=l1", long, api.Win1252, 0, media)
	finds(t, long, long, api.Utf8, 0, media)
	finds(t, "text/xml;charset="+long, long, api.Utf8, 0, label)
	finds(t, "text/xml;charset=latin1"+long, long, api.Utf8, 0, label)
	finds(t, "text/xml;charset=\""+strings.Repeat(" ", 1<<18)+"l9\"", long, api.Iso15, 0)
	finds(t, "text/xml"+strings.Repeat(";a=b", 1<<16)+";charset=l9", long, api.Iso15, 0)
	finds(t, "text/xml;charset=l9"+strings.Repeat(";charset=none", 1<<16), long, api.Iso15, 0)
	finds(t, strings.Repeat(" \t", 1<<18), long, api.Utf8, 0)
	finds(t, strings.Repeat(" \t", 1<<18)+"\n", long, api.Utf8, 0, media)
	finds(t, strings.Repeat(" ", 1<<18)+"text/xml;charset=l9", "\xfe\xff"+long, api.Utf16be, 2)
}

func TestXml(t *testing.T) {
	xml := []string{"", " ", "\t", " \t \t ", "text/xml", "application/xml", "TEXT/XML", "Application/Xml", "application/rss+xml", "application/atom+xml", "a/b+xml", "a/+xml", "image/SVG+XML", "a/b+c+xml", "text/xml;", "text/xml; charset=none", "text/xml;charset=\"\"", "text/xml ;a=b", " text/xml", "\ttext/xml\t", "  application/rss+xml ; charset=utf-8 ", "a/b+xml;a=\"text/html\"", strings.Repeat(" ", 1<<16), "a/" + strings.Repeat("b", 1<<16) + "+xml"}
	for _, kind := range xml {
		if !sniff.Xml(kind) {
			t.Errorf("Xml(%.99q) = false", kind)
		}
		finds(t, kind, "\xef\xbb\xbf", api.Utf8, 3)
	}
	none := []string{"text/html", "text/plain", "text/xmlx", "text/xm", "xml/text", "a/xml", "application/xml+a", "application/xmlx", "xapplication/xml", "xtext/xml", "a/b-xml", "a/b+xmlx", "a/b+xm", "a/bxml", "a+xml/b", "+xml/a", "text/html;a=+xml", "text/html; a=\"text/xml\"", "text/xml+html", "xml", "+xml", "text/", "/xml", "text", "text/xml/xml", "text /xml", "text/ xml", "text/xml a", "text/xml,", "text/xml;a", "text/xml;a=", "text/xml;=b", "text/xml;a=\"b", "text/xml a=b", ";", "=", "text/xml\n", "\ntext/xml", "\n", "\r", "\r\n", "\f", "\x0b", "\x00", "\u00a0", "\u2003", " \n", "\t\r ", "\x00text/xml", "text/xml\x00", "text/xml\u00a0", "t\u00e9xt/xml", "\xff", "*/*", "a/b"}
	for _, kind := range none {
		if sniff.Xml(kind) {
			t.Errorf("Xml(%.99q) = true", kind)
		}
		finds(t, kind, "\xef\xbb\xbf", api.Utf8, 3, media)
	}
	for c := range 256 {
		s := one(c)
		if is := c == ' ' || c == '\t'; sniff.Xml(s) != is || sniff.Xml(" "+s+"\t") != is {
			t.Errorf("Xml(%q)", s)
		}
		if is := c == ' ' || c == '\t' || c == ';'; sniff.Xml("text/xml"+s) != is {
			t.Errorf("Xml(text/xml, then %q)", s)
		}
		if is := c == ' ' || c == '\t'; sniff.Xml(s+"text/xml") != is {
			t.Errorf("Xml(%q, then text/xml)", s)
		}
	}
}
