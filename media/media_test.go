package media_test

import (
	"regexp"
	"slices"
	"strings"
	"testing"

	"carding/api"
	"carding/media"
)

// The chapter's words, each byte told as the scalar of its number (see scalars).
const (
	token  = "[A-Za-z0-9!#$%&'*+.^_`|~-]+"
	quoted = `"(?:\\[\t\x20-\x7E]|[\t\x20\x21\x23-\x5B\x5D-\x7E\x{80}-\x{FF}])*"`
	blanks = "[ \t]*"
	param  = blanks + ";" + blanks + "(?:(" + token + ")=(" + token + "|" + quoted + "))?"
	typed  = blanks + "(" + token + "/" + token + ")"
)

var (
	whole  = regexp.MustCompile(`\A` + typed + "((?:" + param + ")*)" + blanks + `\z`)
	params = regexp.MustCompile(param)
	tokens = regexp.MustCompile(`\A` + token + `\z`)
	small  = regexp.MustCompile("\\A[a-z0-9!#$%&'*+.^_`|~-]+\\z")
	values = regexp.MustCompile(`\A[\t\x20-\x7E\x{80}-\x{FF}]*\z`)
	behind = regexp.MustCompile(`\\(.)`)
)

// scalars gives a text in which a scalar of each byte's number stands; bytes is the way back.
func scalars(s string) string {
	var l []rune
	for i := range len(s) {
		l = append(l, rune(s[i]))
	}
	return string(l)
}

func bytes(s string) string {
	var b []byte
	for _, r := range s {
		b = append(b, byte(r))
	}
	return string(b)
}

// lowered is Lower by the chapter's words: each of the 26 letters by itself.
func lowered(s string) string {
	for i, c := range "ABCDEFGHIJKLMNOPQRSTUVWXYZ" {
		s = strings.ReplaceAll(s, string(c), "abcdefghijklmnopqrstuvwxyz"[i:i+1])
	}
	return s
}

// parsed is Parse by the chapter's words.
func parsed(s string) (m api.Media, ok bool) {
	found := whole.FindStringSubmatch(scalars(s))
	if found == nil {
		return m, false
	}
	m.Type = lowered(found[1])
	for _, p := range params.FindAllStringSubmatch(found[2], -1) {
		if p[1] == "" {
			continue
		}
		value := p[2]
		if value[0] == '"' {
			value = behind.ReplaceAllString(value[1:len(value)-1], "$1")
		}
		m.Params = append(m.Params, api.Param{Name: lowered(p[1]), Value: bytes(value)})
	}
	return m, true
}

// written is Text by the chapter's words.
func written(m api.Media) (s string, ok bool) {
	one, other, _ := strings.Cut(m.Type, "/")
	if !small.MatchString(one) || !small.MatchString(other) {
		return "", false
	}
	s = m.Type
	for _, p := range m.Params {
		if !small.MatchString(p.Name) || !values.MatchString(scalars(p.Value)) {
			return "", false
		}
		v := p.Value
		if !tokens.MatchString(v) {
			v = `"` + strings.ReplaceAll(strings.ReplaceAll(v, `\`, `\\`), `"`, `\"`) + `"`
		}
		s += "; " + p.Name + "=" + v
	}
	return s, true
}

// made makes a Content-Type of a type, and of names and values in turn.
func made(kind string, pairs ...string) api.Media {
	m := api.Media{Type: kind}
	for i := 0; i+1 < len(pairs); i += 2 {
		m.Params = append(m.Params, api.Param{Name: pairs[i], Value: pairs[i+1]})
	}
	return m
}

// one is the text of one byte.
func one(c int) string { return string([]byte{byte(c)}) }

// equal is Same by the chapter's words.
func equal(a, b api.Media) bool { return a.Type == b.Type && slices.Equal(a.Params, b.Params) }

// reads holds Parse against what is wanted.
func reads(t *testing.T, s string, want api.Media) {
	t.Helper()
	if m, e := media.Parse(s); e != api.OK || !equal(m, want) {
		t.Errorf("Parse(%q) = %q, %v; want %q", s, m, e, want)
	}
}

// refuses holds Parse against ErrCode, beside which there is nothing.
func refuses(t *testing.T, s string) {
	t.Helper()
	if m, e := media.Parse(s); e != api.ErrCode || m.Type != "" || len(m.Params) != 0 {
		t.Errorf("Parse(%q) = %q, %v; want ErrCode", s, m, e)
	}
}

// parses holds Parse against the chapter's words.
func parses(t *testing.T, s string) {
	t.Helper()
	if m, ok := parsed(s); ok {
		reads(t, s, m)
	} else {
		refuses(t, s)
	}
}

// writes holds Text against what is wanted.
func writes(t *testing.T, m api.Media, want string) {
	t.Helper()
	if s, e := media.Text(m); e != api.OK || s != want {
		t.Errorf("Text(%q) = %q, %v; want %q", m, s, e, want)
	}
}

// mayNot holds Text against ErrArg, beside which there is nothing.
func mayNot(t *testing.T, m api.Media) {
	t.Helper()
	if s, e := media.Text(m); e != api.ErrArg || s != "" {
		t.Errorf("Text(%q) = %q, %v; want ErrArg", m, s, e)
	}
}

// tells holds Text against the chapter's words.
func tells(t *testing.T, m api.Media) {
	t.Helper()
	if s, ok := written(m); ok {
		writes(t, m, s)
	} else {
		mayNot(t, m)
	}
}

// isSame holds Same against what is wanted, both ways about.
func isSame(t *testing.T, a, b api.Media, want bool) {
	t.Helper()
	if media.Same(a, b) != want || media.Same(b, a) != want {
		t.Errorf("Same(%q, %q) is not %v", a, b, want)
	}
}

// rows calls f with all rows of up to n pieces.
func rows(pieces []string, n int, f func(s string)) {
	var more func(s string, n int)
	more = func(s string, n int) {
		f(s)
		if n == 0 {
			return
		}
		for _, p := range pieces {
			more(s+p, n-1)
		}
	}
	more("", n)
}

// P6.1

func TestParse(t *testing.T) {
	for s, want := range map[string]api.Media{
		`text/XML; charset="utf-8"`:       made("text/xml", "charset", "utf-8"),
		"a/b":                             made("a/b"),
		"text/xml":                        made("text/xml"),
		"application/atom+xml":            made("application/atom+xml"),
		"Application/RSS+Xml":             made("application/rss+xml"),
		"A/B":                             made("a/b"),
		"0/9":                             made("0/9"),
		"!#$%&'*+-.^_`|~/~|`_^.-+*'&%$#!": made("!#$%&'*+-.^_`|~/~|`_^.-+*'&%$#!"),
		"ABCDEFGHIJKLMNOPQRSTUVWXYZ/abcdefghijklmnopqrstuvwxyz": made("abcdefghijklmnopqrstuvwxyz/abcdefghijklmnopqrstuvwxyz"),
		"a/b;c=d":                             made("a/b", "c", "d"),
		"a/b;C=D":                             made("a/b", "c", "D"),
		`a/b;CHARSET="UTF-8"`:                 made("a/b", "charset", "UTF-8"),
		"a/b;c=d;e=f":                         made("a/b", "c", "d", "e", "f"),
		"a/b;e=f;c=d":                         made("a/b", "e", "f", "c", "d"),
		"a/b;c=1;c=2;C=1":                     made("a/b", "c", "1", "c", "2", "c", "1"),
		"a/b;!#$%&'*+-.^_`|~=~|`_^.-+*'&%$#!": made("a/b", "!#$%&'*+-.^_`|~", "~|`_^.-+*'&%$#!"),
		"a/b;c=ABCXYZabcxyz0189":              made("a/b", "c", "ABCXYZabcxyz0189"),
	} {
		reads(t, s, want)
		parses(t, s)
	}
}

func TestParseBlanks(t *testing.T) {
	about := []string{"", " ", "\t", "  ", "\t\t", " \t", "\t ", " \t \t\t  "}
	want := made("a/b", "c", "d", "e", "f g")
	for _, v := range about {
		for _, w := range about {
			for _, x := range about {
				reads(t, v+"A/b"+w+";"+x+"c=d"+w+";"+v+`E="f g"`+x, want)
				reads(t, v+"a/b"+w, made("a/b"))
				reads(t, v+"a/b"+w+";"+x, made("a/b"))
				reads(t, "a/b;"+v+"c=d"+w+";"+x+";"+v+`e="f g"`+x+";"+w, want)
			}
		}
	}
}

func TestParseEmptyParameters(t *testing.T) {
	for _, s := range []string{"a/b;", "a/b;;", "a/b;;;;", "a/b ;", "a/b; ", "a/b ; ;\t; "} {
		reads(t, s, made("a/b"))
	}
	for _, s := range []string{"a/b;;c=d", "a/b;c=d;", "a/b;;;c=d;;;", "a/b; ;\t; c=d ; ; ", `a/b;;c="d";`, `a/b;c="d";;`, `a/b;c="d" ; `, `a/b;;c="\d"`} {
		reads(t, s, made("a/b", "c", "d"))
	}
	reads(t, "a/b;c=1;;d=2", made("a/b", "c", "1", "d", "2"))
	reads(t, "a/b;c=1 ; ; ;d=2;", made("a/b", "c", "1", "d", "2"))
	reads(t, `a/b;c="";;d="";`, made("a/b", "c", "", "d", ""))
}

func TestParseQuoted(t *testing.T) {
	for quoted, value := range map[string]string{
		``: ``, ` `: ` `, "\t": "\t", "  \t ": "  \t ", `a`: `a`, `ab`: `ab`, `a b`: `a b`, ` a `: ` a `, `A`: `A`, `UTF-8`: `UTF-8`,
		`\"`: `"`, `\\`: `\`, `\"\"`: `""`, `\\\\`: `\\`, `\\\"`: `\"`, `\"\\`: `"\`, `a\"b`: `a"b`, `a\\b`: `a\b`, `\\a`: `\a`, `\\n`: `\n`, `\"a\"`: `"a"`,
		`\a`: `a`, `\A`: `A`, `a\b`: `ab`, `\a\b`: `ab`, `\ab`: `ab`, `\n`: `n`, `\0`: `0`, `\ `: ` `, "\\\t": "\t", `\;`: `;`, `\=`: `=`, `\/`: `/`, `\~`: `~`, `\!`: `!`, `\u\t\f\-8`: `utf-8`,
		`;`: `;`, `=`: `=`, `/`: `/`, `,`: `,`, `;a=b`: `;a=b`, `a/b; c=d`: `a/b; c=d`, `'`: `'`, `()<>@,;:/[]?={}`: `()<>@,;:/[]?={}`,
		"\x80": "\x80", "\xff": "\xff", "\xe4\xc3": "\xe4\xc3", "é": "é", "\u20ac\U0001f600": "\u20ac\U0001f600", "\xed\xa0\x80": "\xed\xa0\x80", "\u00a0": "\u00a0", "\u0085": "\u0085", "\ufeff": "\ufeff", "a\xe4\tb": "a\xe4\tb",
	} {
		reads(t, `a/b;c="`+quoted+`"`, made("a/b", "c", value))
		reads(t, `a/b; C="`+quoted+`" ; d="`+quoted+`";e=f`, made("a/b", "c", value, "d", value, "e", "f"))
		refuses(t, `a/b;c="`+quoted)
		refuses(t, `a/b;c="`+quoted+`\`)
		refuses(t, `a/b;c="`+quoted+`\"`)
		refuses(t, `a/b;c="`+quoted+`"e`)
		refuses(t, `a/b;c="`+quoted+`" e`)
		refuses(t, `a/b;c="`+quoted+`""`)
		refuses(t, `a/b;c="`+quoted+`" "`)
		refuses(t, `a/b;c=e"`+quoted+`"`)
		refuses(t, `a/b;"`+quoted+`"`)
		refuses(t, `a/b;"`+quoted+`"=d`)
		refuses(t, `a/"`+quoted+`"`)
		refuses(t, `"`+quoted+`"/b`)
		refuses(t, `"`+quoted+`"`)
	}
}

func TestParseWrong(t *testing.T) {
	for _, s := range []string{
		"", " ", "\t", " \t \t", "/", "//", " / ", ";", "; ", "=", "\"", "\\", "\"\"", ",", "a", "text", " text ", "text;", "text;c=d", ";c=d", "c=d", "text/", "/xml", "/xml;c=d", "text/;c=d", "text/ ", " /xml", "text//xml", "text/xml/", "/text/xml", "text/xml/x", "text/x/ml",
		"text /xml", "text/ xml", "text / xml", "text\t/xml", "text/\txml", "te xt/xml", "text/x ml", "text/xml x", "text/xml\tx", "text/xml a=b", "text/xml c=d;e=f", "text/xml text/xml",
		"text/xml,", "text/xml,c=d", "text/xml, text/xml", "text/xml;c=d,e=f", "text/xml;c=d,", "text/xml;c=\"d\",e=f", "text/xml:c=d", "text/xml&c=d;(e)", "text/xml;c==d", "text/xml;c=d=e", "text/xml;c=d=", "text/xml;=", "text/xml;=d", "text/xml; =d", "text/xml;=;", "text/xml;c", "text/xml;c;", "text/xml;c ", "text/xml; c ;d=e", "text/xml;c=", "text/xml;c= ", "text/xml;c=;", "text/xml;c=;d=e", "text/xml;d=e;c=", "text/xml;d=e;c",
		"text/xml;c =d", "text/xml;c= d", "text/xml;c = d", "text/xml;c\t=d", "text/xml;c=\td", "text/xml;c =\"d\"", "text/xml;c= \"d\"", "text/xml;c d=e", "text/xml;c=d e", "text/xml;c=d\te=f", "text/xml;c=d e=f", "text/xml;c=(d)", "text/xml;c=a/b", "text/xml;c=a:b", "text/xml;c=[d]", "text/xml;c={d}", "text/xml;c=<d>", "text/xml;c=d@e", "text/xml;c=d?", "text/xml;c=d\\e", "text/xml;c=\\d", "text/xml;\\c=d", "text\\/xml",
		"(text)/xml", "text/(xml)", "<text/xml>", "[text/xml]", "\"text/xml\"", "text/xml;c='d e'", "text/xml (c)", "text/xml;(c)", "text/xml;c=d(e)",
		"t\xe4xt/xml", "text/xm\xc3\xa4", "text/xml;\xe4=d", "text/xml;c=\xe4", "text/xml\xff", "\xfftext/xml", "\ufefftext/xml", "text/xml\u00a0", "\u00a0text/xml", "text/xml;\u00a0c=d", "text/xml\xa0;c=d", "\xa0text/xml", "text/xml;c=d\u2003", "text/xml\u2028", "\u212a/b", "te\u017ft/xml",
		"text/xml\x00", "\x00text/xml", "text/xml;\x00", "text/xml;c=d\x00", "text/xml;c=\"d\"\x00", "te\x00xt/xml", "\x7ftext/xml", "text/xml;c=\x7f",
	} {
		refuses(t, s)
		parses(t, s)
		refuses(t, " "+s)
		refuses(t, s+"\n")
		if s != "" {
			refuses(t, "a/b "+s+"\x00")
		}
	}
	for _, c := range []string{"\n", "\v", "\f", "\r", "\r\n", "\r\n ", "\xa0", "\u00a0", "\u0085", "\x85", "\ufeff", "\u200b", "\x1f", "\x1c"} { // white space that is none of the blanks
		for _, s := range []string{"?text/xml", "text/xml?", "text/xml?;c=d", "text/xml;?c=d", "text/xml;c=d?", "text/xml;c=\"d\"?", "text/xml;c=d;?", "text/xml;?", " ?text/xml", "text/xml ?", "text/xml; ?c=d", "text/xml;? c=d", "text?/xml", "text/?xml", "te?xt/xml", "text/xml;c?=d", "text/xml;c=?d", "?"} {
			refuses(t, strings.ReplaceAll(s, "?", c))
		}
	}
}

func TestParseQuotedWrong(t *testing.T) {
	for _, s := range []string{`"`, `"d`, `"\`, `"d\`, `"\"`, `"d\"`, `"\\\"`, `"\\\`, `"""`, `"d"e`, `"d"=`, `"d"=e`, `"d",`, `"d"/`, `"d"\`, `"d""e"`, `"d" "e"`, `"d" e`, `"d"e=f`, `"d" e=f`, `d"`, `d"e"`, `'d e'`, "\"d\"\n", "\"d\"\xa0"} {
		refuses(t, "a/b;c="+s)
		refuses(t, "a/b;x=y; c="+s)
		refuses(t, "a/b;c="+s+"\x01")
		parses(t, "a/b;c="+s+";")
		parses(t, "a/b;c="+s+`"`)
		parses(t, "a/b;c="+s+`;d="e"`)
	}
	for c := range 256 {
		as, meant := `a/b;c="`+one(c)+`"`, `a/b;c="\`+one(c)+`"`
		switch {
		case c == 9, c >= 0x20 && c <= 0x7E && c != '"' && c != '\\':
			reads(t, as, made("a/b", "c", one(c)))
			reads(t, meant, made("a/b", "c", one(c)))
			reads(t, `a/b;c="`+one(c)+one(c)+`\`+one(c)+one(c)+`";d=e`, made("a/b", "c", strings.Repeat(one(c), 4), "d", "e"))
		case c == '"', c == '\\':
			refuses(t, as)
			reads(t, meant, made("a/b", "c", one(c)))
			reads(t, `a/b;c="x\`+one(c)+`y" `, made("a/b", "c", "x"+one(c)+"y"))
		case c >= 0x80:
			reads(t, as, made("a/b", "c", one(c)))
			reads(t, `a/b;c="x`+one(c)+`y"`, made("a/b", "c", "x"+one(c)+"y"))
			refuses(t, meant)
			refuses(t, `a/b;c="x\`+one(c)+`y"`)
		default:
			for _, s := range []string{as, meant, `a/b;c="x` + one(c) + `"`, `a/b;c="` + one(c) + `y"`, `a/b;c="x\` + one(c) + `y"`} {
				refuses(t, s)
			}
		}
	}
}

// Every byte as a token of one byte, and at each of a token's places: just 77 may stand there.
func TestParseEveryByteInTokens(t *testing.T) {
	n := 0
	for c := range 256 {
		s := one(c)
		if !strings.Contains("ABCDEFGHIJKLMNOPQRSTUVWXYZabcdefghijklmnopqrstuvwxyz0123456789!#$%&'*+-.^_`|~", s) {
			for _, x := range []string{"?/b", "a/?", "x?y/b", "a/x?y", "a/b;?=d", "a/b;x?y=d", "a/b;c=x?y"} {
				refuses(t, strings.ReplaceAll(x, "?", s))
			}
			for _, x := range []string{"?x/b", "x?/b", "a/?x", "a/x?", "a/b;?x=d", "a/b;x?=d", "a/b;c=?", "a/b;c=?x", "a/b;c=x?", "?a/b", "a/b;c=d?", "a/b?;c=d"} {
				parses(t, strings.ReplaceAll(x, "?", s))
			}
			continue
		}
		n++
		l := lowered(s)
		reads(t, s+"/b", made(l+"/b"))
		reads(t, "a/"+s, made("a/"+l))
		reads(t, "x"+s+"y/b", made("x"+l+"y/b"))
		reads(t, "a/x"+s+"y;", made("a/x"+l+"y"))
		reads(t, s+s+"/"+s+s, made(l+l+"/"+l+l))
		reads(t, "a/b;"+s+"=d", made("a/b", l, "d"))
		reads(t, "a/b;x"+s+"y=d", made("a/b", "x"+l+"y", "d"))
		reads(t, "a/b;c="+s, made("a/b", "c", s))
		reads(t, "a/b;c=x"+s+"y ; d="+s, made("a/b", "c", "x"+s+"y", "d", s))
	}
	if n != 77 {
		t.Error(n)
	}
}

// Every byte in each gap of some Content-Types, and in the place of each of their bytes.
func TestParseEveryByteEverywhere(t *testing.T) {
	for _, s := range []string{"a/b", " a/b ", "a/b;c=d", " a/B ; C=\"d \\\" \\\\ \xe4\" ;;e=f;", "a/b; c=\"\"", "a/b;c=\"\\d\"\t"} {
		for i := range len(s) + 1 {
			for c := range 256 {
				parses(t, s[:i]+one(c)+s[i:])
				if i < len(s) {
					parses(t, s[:i]+one(c)+s[i+1:])
				}
			}
			if i < len(s) {
				parses(t, s[:i]+s[i+1:])
				parses(t, s[:i])
				parses(t, s[i:])
			}
		}
	}
}

func TestParseRows(t *testing.T) {
	all := []string{"a", "B", "/", ";", "=", " ", "\t", `"`, `\`, "\n", "\xe9"}
	rows(all, 3, func(s string) { parses(t, s) })
	for _, s := range []string{"a/b", "a/b;", "a/b;c", "a/b;c=", `a/b;c="`, `a/b;c="d"`, "a/b;c=d"} {
		rows(all, 3, func(more string) { parses(t, s+more) })
	}
	rows([]string{";", " ", `"`, `\`, "a", "a="}, 5, func(s string) { parses(t, "a/b"+s) })
	rows([]string{`"`, `\`, "a", "\xe9", ";b=c"}, 6, func(s string) { parses(t, `a/b;c="`+s) })
}

func TestParseLong(t *testing.T) {
	const n = 1 << 18
	long := strings.Repeat("Ab", n)
	reads(t, strings.Repeat(" \t", n)+long+"/"+long+strings.Repeat(" ;", n)+long+"="+long+strings.Repeat("\t", n), made(lowered(long)+"/"+lowered(long), lowered(long), long))
	reads(t, `a/b;c="`+strings.Repeat(`\"x\\ `, n)+`"`, made("a/b", "c", strings.Repeat(`"x\ `, n)))
	refuses(t, long)
	refuses(t, long+"/")
	refuses(t, "a/b;"+long)
	refuses(t, strings.Repeat(" ", n))
	refuses(t, "a/b"+strings.Repeat(";", n)+"=")
	refuses(t, "a/b;c=\""+long)
	refuses(t, "a/b;c=\""+strings.Repeat(`\`, n))
	refuses(t, strings.Repeat("a/", n))
	var want api.Media
	want.Type = "a/b"
	for range n {
		want.Params = append(want.Params, api.Param{Name: "c", Value: "D"})
	}
	reads(t, "a/b"+strings.Repeat(";C=D", n), want)
	refuses(t, "a/b"+strings.Repeat(";C=D", n)+";C")
}

// What is done to an answer is not seen in the next one.
func TestParseIsNew(t *testing.T) {
	const s = `a/b;c=d;e="f"`
	want := made("a/b", "c", "d", "e", "f")
	m, _ := media.Parse(s)
	other, _ := media.Parse(s)
	for i := range m.Params {
		m.Params[i] = api.Param{Name: "x", Value: "y"}
	}
	_ = append(m.Params[:0], api.Param{Name: "v", Value: "w"})
	if !equal(other, want) {
		t.Error(other)
	}
	reads(t, s, want)
	refuses(t, "a/b;c")
	reads(t, s, want)
}

func TestSame(t *testing.T) {
	a := made("a/b", "c", "d", "e", "f")
	isSame(t, a, a, true)
	isSame(t, a, made("a/b", "c", "d", "e", "f"), true)
	isSame(t, api.Media{}, api.Media{Params: []api.Param{}}, true)
	isSame(t, made("a/b"), api.Media{Type: "a/b", Params: []api.Param{}}, true)
	isSame(t, api.Media{Params: []api.Param{{}}}, api.Media{Params: []api.Param{{}}}, true)
	isSame(t, made("\xff", "", "\x00"), made("\xff", "", "\x00"), true)
	for _, b := range []api.Media{
		{}, made("a/b"), made("a/c", "c", "d", "e", "f"), made("A/b", "c", "d", "e", "f"), made("", "c", "d", "e", "f"), made("a/b ", "c", "d", "e", "f"),
		made("a/b", "c", "d"), made("a/b", "e", "f"), made("a/b", "e", "f", "c", "d"), made("a/b", "c", "d", "e", "f", "g", "h"), made("a/b", "c", "d", "e", "f", "e", "f"), made("a/b", "c", "d", "e", "f", "", ""), made("a/b", "", "", "c", "d", "e", "f"),
		made("a/b", "x", "d", "e", "f"), made("a/b", "c", "x", "e", "f"), made("a/b", "c", "d", "x", "f"), made("a/b", "c", "d", "e", "x"), made("a/b", "C", "d", "e", "f"), made("a/b", "c", "D", "e", "f"), made("a/b", "d", "c", "e", "f"), made("a/b", "c", "", "e", "f"), made("a/b", "c", "d", "", "f"), made("a/b", "c", "f", "e", "d"), made("a/b", "cd", "", "ef", ""),
	} {
		isSame(t, a, b, false)
		isSame(t, b, b, true)
	}
	isSame(t, api.Media{}, api.Media{Params: []api.Param{{}}}, false)
	isSame(t, made("a/b", "", ""), made("a/b"), false)
	isSame(t, made("a/b", "", ""), made("a/b", "", "", "", ""), false)
}

func TestLower(t *testing.T) {
	for s, want := range map[string]string{
		"": "", "A": "a", "Z": "z", "@AZ[`az{": "@az[`az{", "ABCDEFGHIJKLMNOPQRSTUVWXYZ": "abcdefghijklmnopqrstuvwxyz", "Text/XML": "text/xml", " UTF-8\n": " utf-8\n",
		"É": "É", "\xc9\xc1\xda": "\xc9\xc1\xda", "\u0130I": "\u0130i", "\u212aK": "\u212ak", "\u017f": "\u017f", "Ж\uff21": "Ж\uff21", "\xff": "\xff", "\xc3A": "\xc3a",
	} {
		if got := media.Lower(s); got != want {
			t.Errorf("Lower(%q) = %q; want %q", s, got, want)
		}
	}
	for c := range 256 {
		want := c
		if c >= 65 && c <= 90 {
			want += 32
		}
		if got := media.Lower("Q" + one(c) + "é"); got != "q"+one(want)+"é" {
			t.Errorf("Lower of %x: %q", c, got)
		}
	}
	const n = 1 << 20
	if media.Lower(strings.Repeat("@AZ[\xc9", n)) != strings.Repeat("@az[\xc9", n) {
		t.Error("long")
	}
}

// P6.2

func TestText(t *testing.T) {
	for _, x := range []struct {
		m    api.Media
		want string
	}{
		{made("a/b"), "a/b"},
		{api.Media{Type: "text/xml", Params: []api.Param{}}, "text/xml"},
		{made("text/xml", "charset", "utf-8"), "text/xml; charset=utf-8"},
		{made("application/atom+xml", "charset", "UTF-8", "type", "entry"), "application/atom+xml; charset=UTF-8; type=entry"},
		{made("a/b", "c", "1", "c", "2", "c", "1"), "a/b; c=1; c=2; c=1"},
		{made("!#$%&'*+-.^_`|~/0z", "!#$%&'*+-.^_`|~", "!#$%&'*+-.^_`|~"), "!#$%&'*+-.^_`|~/0z; !#$%&'*+-.^_`|~=!#$%&'*+-.^_`|~"},
		{made("a/b", "c", ""), `a/b; c=""`},
		{made("a/b", "c", "", "d", "", "e", "f"), `a/b; c=""; d=""; e=f`},
		{made("a/b", "c", " "), `a/b; c=" "`},
		{made("a/b", "c", "\t"), "a/b; c=\"\t\""},
		{made("a/b", "c", " d e\t"), "a/b; c=\" d e\t\""},
		{made("a/b", "c", `"`), `a/b; c="\""`},
		{made("a/b", "c", `\`), `a/b; c="\\"`},
		{made("a/b", "c", `""\\`), `a/b; c="\"\"\\\\"`},
		{made("a/b", "c", `d"e\f`), `a/b; c="d\"e\\f"`},
		{made("a/b", "c", `\d`), `a/b; c="\\d"`},
		{made("a/b", "c", "'"), "a/b; c='"},
		{made("a/b", "c", "a/b"), `a/b; c="a/b"`},
		{made("a/b", "c", "=;,"), `a/b; c="=;,"`},
		{made("a/b", "c", "d;e=f"), `a/b; c="d;e=f"`},
		{made("a/b", "c", "\x80"), "a/b; c=\"\x80\""},
		{made("a/b", "c", "\xff"), "a/b; c=\"\xff\""},
		{made("a/b", "c", "é\u20ac"), "a/b; c=\"é\u20ac\""},
		{made("a/b", "c", "()<>@:[]?{}"), `a/b; c="()<>@:[]?{}"`},
		{made("a/b", "c", "D", "e", "F G"), `a/b; c=D; e="F G"`},
	} {
		writes(t, x.m, x.want)
		tells(t, x.m)
	}
}

func TestTextWrong(t *testing.T) {
	for _, kind := range []string{"", " ", "/", "//", "a", "ab", "a/", "/b", "a//b", "a/b/", "/a/b", "a/b/c", "A/b", "a/B", "A/B", "aB/c", "text/xmL", "Text/xml", " a/b", "a/b ", "a /b", "a/ b", "a/b c", "a b/c", "a/b;", "a/b;c=d", "a/b; c=d", "a\\b", "a,b", `"a"/b`, `a/"b"`, "a=/b", "(a)/b", "a/b\x00", "\x7fa/b", "a\n/b", "a/b\n", "\xe4/b", "a/\xff", "é/b", "a/\u00a0b", "a/b\u00a0"} {
		mayNot(t, made(kind))
		mayNot(t, made(kind, "c", "d"))
		tells(t, made(kind, "charset", "utf-8"))
	}
	for _, name := range []string{"", " ", "C", "cD", "Charset", "CHARSET", "c ", " c", "c d", "c=", "=", "c=d", ";", "c;", `"c"`, `"`, `\`, "c/d", "c,", "(c)", "c\t", "c\n", "\x00", "c\x7f", "\xe4", "é", "c\xff"} {
		mayNot(t, made("a/b", name, "d"))
		mayNot(t, made("a/b", name, ""))
		mayNot(t, made("a/b", "c", "d", name, "e"))
		mayNot(t, made("a/b", name, "d", "c", "e"))
		mayNot(t, made("a/b", "c", "d", name, "e", "f", "g"))
	}
	for c := range 256 {
		for _, v := range []string{one(c), "x" + one(c), one(c) + "y", "x y" + one(c) + "z"} {
			if c < 9 || c > 9 && c < 32 || c == 127 {
				mayNot(t, made("a/b", "c", v))
				mayNot(t, made("a/b", "c", v, "d", "e", "f", "g"))
				mayNot(t, made("a/b", "d", "e", "c", v, "f", "g"))
				mayNot(t, made("a/b", "d", "e", "f", "g", "c", v))
			} else if s, e := media.Text(made("a/b", "c", v)); e != api.OK || s == "" {
				t.Errorf("%q: %q, %v", v, s, e)
			}
			tells(t, made("a/b", "c", v))
			tells(t, made("a/b", v, "d"))
			tells(t, made(v+"/b"))
			tells(t, made("a/"+v))
		}
	}
	mayNot(t, api.Media{})
	mayNot(t, api.Media{Params: []api.Param{{Name: "c", Value: "d"}}})
	mayNot(t, api.Media{Type: "a/b", Params: []api.Param{{}}})
}

func TestTextRows(t *testing.T) {
	pieces := []string{"a", "B", "/", " ", "\t", `"`, `\`, "\n", "\xe9", ";"}
	rows(pieces, 4, func(s string) { tells(t, made("a/b", "c", s)) })
	rows(pieces, 3, func(s string) {
		tells(t, made(s))
		tells(t, made("a/b", s, "d"))
		tells(t, made("a/b", "x", "y", s, s))
	})
}

// Text leaves what is handed in as it is, what stands behind the list too.
func TestTextLeaves(t *testing.T) {
	l := []api.Param{{Name: "c", Value: `d"`}, {Name: "E", Value: "f"}, {Name: "g", Value: "h"}}
	was := slices.Clone(l)
	writes(t, api.Media{Type: "a/b", Params: l[:1]}, `a/b; c="d\""`)
	mayNot(t, api.Media{Type: "a/b", Params: l[:2]})
	media.Xml(api.Media{Type: "A/b", Params: l[:1]})
	media.Charset(api.Media{Params: l[:2]})
	media.Same(api.Media{Params: l[:1]}, api.Media{Params: l})
	if !slices.Equal(l, was) {
		t.Error(l)
	}
}

func TestTextLong(t *testing.T) {
	const n = 1 << 18
	long := strings.Repeat("ab", n)
	writes(t, made(long+"/"+long, long, long, "c", strings.Repeat(`" \`, n)), long+"/"+long+"; "+long+"="+long+`; c="`+strings.Repeat(`\" \\`, n)+`"`)
	mayNot(t, made(long))
	mayNot(t, made("a/b", "c", long+"\n"))
	mayNot(t, made("a/b", long+"C", "d"))
	var m api.Media
	m.Type = "a/b"
	for range n {
		m.Params = append(m.Params, api.Param{Name: "c", Value: "D"})
	}
	writes(t, m, "a/b"+strings.Repeat("; c=D", n))
	m.Params[n-1].Value = "\x7f"
	mayNot(t, m)
}

// P6.3

func TestXml(t *testing.T) {
	for _, s := range []string{"text/xml", "application/xml", "application/atom+xml", "application/rss+xml", "application/rdf+xml", "image/svg+xml", "x/+xml", "x/y+z+xml", "text/xml+xml", "text/html+xml", "x/xml+xml"} {
		if !media.Xml(made(s)) || !media.Xml(made(s, "charset", "utf-8")) {
			t.Errorf("%q is of XML", s)
		}
		for _, x := range []string{s[:len(s)-1], s + "x", s + " ", s + ";", s + "\n", s + "/x", strings.Replace(s, "xml", "xmm", -1), strings.ToUpper(s)} {
			if media.Xml(made(x)) {
				t.Errorf("%q is not of XML", x)
			}
		}
	}
	for _, s := range []string{"", "xml", "/xml", "x/xml", "image/xml", "text/plain", "text/html", "application/json", "application/octet-stream", "ext/xml", "text/xm", "pplication/xml", "application/xm", "application/atom+xm", "application/atom xml", "application/atom-xml", "application/atomxml", "+xm", "x/y+xml+z", "x/+xmly", "x+xml/y", "+xml/y", "text/xml-external", "application/xml-dtd", "text/xml+", " text/xml", "text/xml ", "application/xml+zip", "text\\xml", "text/ xml", "\xfftext/xml", "x/y+xml\x00", "x/y\uff0bxml"} {
		if media.Xml(made(s)) || media.Xml(made(s, "charset", "text/xml")) || media.Xml(made(s, "text/xml", "a+xml")) {
			t.Errorf("%q is not of XML", s)
		}
	}
}

func TestCharset(t *testing.T) {
	for _, x := range []struct {
		m     api.Media
		value string
		ok    bool
	}{
		{api.Media{}, "", false},
		{made("a/b"), "", false},
		{made("a/b", "charset", "utf-8"), "utf-8", true},
		{made("a/b", "charset", "UTF-8"), "UTF-8", true},
		{made("", "charset", "utf-8"), "utf-8", true},
		{made("a/b", "charset", ""), "", true},
		{made("a/b", "charset", " utf-8 "), " utf-8 ", true},
		{made("a/b", "charset", "\x00\xff"), "\x00\xff", true},
		{made("a/b", "charset", "x", "charset", "y"), "x", true},
		{made("a/b", "charset", "y", "charset", "x"), "y", true},
		{made("a/b", "charset", "", "charset", "x"), "", true},
		{made("a/b", "c", "d", "charset", "x", "e", "f"), "x", true},
		{made("a/b", "c", "charset", "e", "f", "charset", "x"), "x", true},
		{made("a/b", "charse", "x"), "", false},
		{made("a/b", "charsets", "x"), "", false},
		{made("a/b", "charset*", "x"), "", false},
		{made("a/b", "xcharset", "x"), "", false},
		{made("a/b", "charset ", "x"), "", false},
		{made("a/b", " charset", "x"), "", false},
		{made("a/b", "Charset", "x"), "", false},
		{made("a/b", "CHARSET", "x", "charset", "y"), "y", true},
		{made("a/b", "charsets", "x", "charse", "y", "charset", "z"), "z", true},
		{made("a/b", "x", "charset"), "", false},
		{made("charset", "", "charset"), "", false},
		{made("a/b;charset=x"), "", false},
	} {
		if value, ok := media.Charset(x.m); value != x.value || ok != x.ok {
			t.Errorf("Charset(%q) = %q, %v; want %q, %v", x.m, value, ok, x.value, x.ok)
		}
	}
	for s, want := range map[string]string{`text/XML; charset="utf-8"`: "utf-8", "text/xml;CharSet=Latin1;charset=x": "Latin1", `a/b;c=d;CHARSET="\u\t\f-8"`: "utf-8"} {
		m, _ := media.Parse(s)
		if value, ok := media.Charset(m); value != want || !ok {
			t.Errorf("%q: %q, %v", s, value, ok)
		}
	}
}

// P6.4

// back holds what is read against what is written of it, there and back.
func back(t *testing.T, m api.Media) {
	t.Helper()
	s, e := media.Text(m)
	if e != api.OK {
		return
	}
	reads(t, s, m)
	got, _ := media.Parse(s)
	isSame(t, got, m, true)
	writes(t, got, s)
}

func TestTextIsParsedAsTheSame(t *testing.T) {
	for c := range 256 {
		for d := range 256 {
			back(t, made("a/b", "c", one(c)+one(d), "d", one(d)))
		}
		back(t, made(one(c)+"/b", one(c), ""))
		back(t, made("a/x"+one(c), "y"+one(c), one(c)))
	}
	rows([]string{"a", "B", " ", "\t", `"`, `\`, ";", "=", "\xe9", "\x80"}, 4, func(s string) { back(t, made("a/b", "c", s, "d", s)) })
}

func TestWhatIsParsedIsWritten(t *testing.T) {
	for s, want := range map[string]string{
		"a/b": "a/b", " A/B\t": "a/b", "a/b;;": "a/b", "a/b;C=D": "a/b; c=D", `a/b;c="d"`: "a/b; c=d", `a/b;c="\d\e"`: "a/b; c=de", `a/b;c="\d e"`: `a/b; c="d e"`, `a/b ; c="" ;`: `a/b; c=""`,
		`text/XML; charset="utf-8"`: "text/xml; charset=utf-8", "a/b;c=\"\\\t\\;\\\\\\\"\xe9\"": "a/b; c=\"\t;\\\\\\\"\xe9\"", "a/b;c=1;;C=2": "a/b; c=1; c=2",
	} {
		m, e := media.Parse(s)
		if e != api.OK {
			t.Errorf("Parse(%q): %v", s, e)
		}
		writes(t, m, want)
		reads(t, want, m)
	}
	rows([]string{";", " ", `"`, `\`, "A", "b=", "\xe9"}, 5, func(s string) {
		m, e := media.Parse("A/b" + s)
		if e != api.OK {
			return
		}
		again, e := media.Text(m)
		if e != api.OK {
			t.Errorf("%q is read, not written", s)
		}
		reads(t, again, m)
	})
}

func FuzzAll(f *testing.F) {
	for _, s := range []string{"", "a/b", "Text/xml ; charset=\"ut\\f-8\";; b=c ", "a/b;c=\"\xe9\t\"", "a/b;c=\"\\"} {
		f.Add(s, "a/b", "c", s)
	}
	f.Fuzz(func(t *testing.T, s, kind, name, value string) {
		parses(t, s)
		if m, e := media.Parse(s); e == api.OK {
			back(t, m)
			tells(t, m)
		}
		m := made(kind, "charset", s, name, value)
		tells(t, m)
		back(t, m)
		got, ok := media.Charset(m)
		if got != s || !ok || !media.Same(m, m) || media.Lower(s) != lowered(s) {
			t.Errorf("%q", m)
		}
	})
}
