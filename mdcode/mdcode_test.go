package mdcode_test

import (
	"math"
	"slices"
	"strconv"
	"strings"
	"testing"

	"indenture/api"
	"indenture/mdcode"
)

// words tell kinds.
var words = map[uint8]string{0: "nothing", api.MdBreak: "break", api.MdEscape: "escape", api.MdSpan: "span", api.MdAuto: "auto", api.MdEntity: "entity"}

// lineEnds are what an LF may be of, and what plays no part behind it.
var lineEnds = []string{"\n", "\r\n", "\n\n", "\n`", "\r\n>", "\n;`\n"}

// hold holds what stands in a line at a place.
func hold(t *testing.T, line string, at, end int, kind uint8, to int) {
	t.Helper()
	if k, n := mdcode.Read(line, at, end); k != kind || n != to {
		t.Errorf("Read(%.99q, %d, %d) = %s, %d, not %s, %d", line, at, end, words[k], n, words[kind], to)
	}
}

// holdAll holds what stands at the beginning of a text, ' being an accent, whatever stands ahead of it, with an LF behind it and whatever follows that.
func holdAll(t *testing.T, text string, kind uint8, to int) {
	t.Helper()
	text = strings.ReplaceAll(text, "'", "`")
	for _, end := range lineEnds {
		for _, ahead := range []string{"", "`", "a", "  ", "\\", "<", "&", "\xff\x00", "``` ", "\r"} {
			n := len(ahead)
			hold(t, ahead+text+end, n, n+len(text), kind, n+to)
			hold(t, ahead+text+end, n, n+len(text)+1, kind, n+to)
			hold(t, ahead+text+end, n, math.MaxInt, kind, n+to)
		}
	}
}

// holdAnywhere is holdAll for what hangs neither on the line's end nor on what stands behind the part.
func holdAnywhere(t *testing.T, text string, kind uint8, to int) {
	t.Helper()
	holdAll(t, text, kind, to)
	text = strings.ReplaceAll(text, "'", "`")
	hold(t, text, 0, len(text), kind, to)
	hold(t, text, 0, math.MaxInt, kind, to)
	for _, behind := range []string{" ", "a", "`", "``", ">", ";", "1", "*", "\\", "\t", "\x00", "\xff"} {
		hold(t, text+behind+"\n", 0, len(text), kind, to)
		hold(t, "a"+text+behind, 1, 1+len(text), kind, 1+to)
	}
}

// P20.1: the chapter's examples.
func TestExamples(t *testing.T) {
	holdAnywhere(t, `\*`, api.MdEscape, 2)
	holdAnywhere(t, `\a`, 0, 1)
	holdAll(t, `\`, api.MdBreak, 1)
	hold(t, "a\\ b\n", 1, 2, 0, 2)
	holdAll(t, "  ", api.MdBreak, 2)
	holdAll(t, " ", 0, 1)
	hold(t, "  ", 0, 2, 0, 1)
	holdAnywhere(t, "''a'b''", api.MdSpan, 7)
	holdAnywhere(t, "''a'", 0, 2)
	holdAnywhere(t, "'a'' '", api.MdSpan, 6)
	holdAnywhere(t, "<ab:c>", api.MdAuto, 6)
	holdAnywhere(t, "<a:c>", 0, 1)
	holdAnywhere(t, "<a@b.c>", api.MdAuto, 7)
	holdAnywhere(t, "<a@-b>", 0, 1)
	holdAnywhere(t, "<a b:c>", 0, 1)
	holdAnywhere(t, "&amp;", api.MdEntity, 5)
	holdAnywhere(t, "&#12;", api.MdEntity, 5)
	holdAnywhere(t, "&#xAf;", api.MdEntity, 6)
	holdAnywhere(t, "&foo;", 0, 1)
	holdAnywhere(t, "&#12345678;", 0, 1)
}

// P20.1: a place that is none of the part.
func TestNoPlace(t *testing.T) {
	for _, line := range []string{"", "`a`", "`a`\n", "`a`\r\n", "`a`\n`b`\n"} {
		for _, at := range []int{math.MinInt, -2, -1, 3, 4, 5, 6, 7, 9, math.MaxInt} {
			for _, end := range []int{math.MinInt, -1, 0, 1, 3, 4, 5, 8, math.MaxInt} {
				hold(t, line, at, end, 0, 0)
			}
		}
	}
	hold(t, "`a`\n", 2, 2, 0, 0)
	hold(t, "`a`\n", 2, 1, 0, 0)
	hold(t, "`a`\n", 2, 3, 0, 3)
	hold(t, "\n`a`", 1, 4, 0, 0)
	hold(t, "a\n\\*", 2, 4, 0, 0)
	hold(t, "a\r\n", 1, 3, 0, 0)
	hold(t, "a\r\r\n", 1, 3, 0, 2)
	hold(t, "a\r\r\n", 2, 3, 0, 0)
	hold(t, "a\rb", 1, 3, 0, 2)
}

// P20.1: what a backslash takes along.
func TestEscapes(t *testing.T) {
	const marks = "!\"#$%&'()*+,-./:;<=>?@[\\]^_`{|}~"
	for c := range 256 {
		b := string([]byte{byte(c)})
		if strings.Contains(marks, b) {
			hold(t, "a\\"+b+"\n", 1, 9, api.MdEscape, 3)
			hold(t, "a\\"+b+"b", 1, 3, api.MdEscape, 3)
			hold(t, "a\\"+b+"b", 1, 2, 0, 2)
			hold(t, "a\\"+b, 1, 9, api.MdEscape, 3)
		} else if b != "\n" {
			hold(t, "a\\"+b+"b\n", 1, 9, 0, 2)
			hold(t, "a\\"+b+"b", 1, 2, 0, 2)
		}
	}
	// At the line's end, if the part goes up to it.
	hold(t, `a\`, 1, 2, api.MdBreak, 2)
	hold(t, `a\`, 1, 99, api.MdBreak, 2)
	hold(t, "a\\\n", 1, 2, api.MdBreak, 2)
	hold(t, "a\\\r\n", 1, 2, api.MdBreak, 2)
	hold(t, "a\\\r", 1, 3, 0, 2)
	hold(t, "a\\\r\r\n", 1, 3, 0, 2)
	hold(t, "a\\\\\n", 1, 3, api.MdEscape, 3)
	hold(t, "a\\\\\n", 2, 3, api.MdBreak, 3)
	hold(t, "a\\b", 1, 2, 0, 2)
}

// P20.1: breaks of blanks.
func TestBreaks(t *testing.T) {
	for n := range 9 {
		row := strings.Repeat(" ", n)
		for at := range n {
			kind, to := api.MdBreak, n
			if n-at < 2 {
				kind, to = 0, n
			}
			hold(t, row+"\n", at, n, kind, to)
			hold(t, row+"\r\n", at, n, kind, to)
			hold(t, row+"\r\n", at, n+9, kind, to)
			hold(t, row, at, n, 0, at+1)
			hold(t, row+"\r", at, n, 0, at+1)
			hold(t, row+"a\n", at, n, 0, at+1)
			hold(t, row+"a\n", at, n+1, 0, at+1)
			hold(t, row+"\t\n", at, n+1, 0, at+1)
			hold(t, row+" \n", at, n, 0, at+1)
			hold(t, row+"\r\r\n", at, n+1, 0, at+1)
		}
	}
	hold(t, "\t\t\n", 0, 2, 0, 1)
	hold(t, "\t  \n", 0, 3, 0, 1)
	hold(t, " \t \n", 0, 3, 0, 1)
}

// P20.1: code.
func TestCode(t *testing.T) {
	for _, x := range []struct {
		text string
		to   int
	}{
		{"''", 0}, {"'a'", 3}, {"' '", 3}, {"'a'b'", 3}, {"'a''b'", 6}, {"''a'''b''", 9}, {"'''a'''", 7}, {"'''a''b'c'''", 12},
		{"'a", 0}, {"''a'''", 0}, {"'''a''", 0}, {"'''''", 0}, {"'\\'", 3}, {"'<a:b'>", 6}, {"'a'''", 0}, {"'a''' '", 7}, {"'\x00\xff\r'", 5}, {"'&amp;'", 7},
	} {
		kind := api.MdSpan
		if x.to == 0 {
			kind, x.to = 0, len(x.text)-len(strings.TrimLeft(x.text, "'"))
		}
		holdAll(t, x.text, kind, x.to)
		// An accent behind the part is none of its own.
		hold(t, strings.ReplaceAll(x.text, "'", "`")+"`", 0, len(x.text), kind, x.to)
	}
	// Accents are counted from the place on, and up to the part's end.
	hold(t, "``a`", 1, 4, api.MdSpan, 4)
	hold(t, "`a``", 0, 3, api.MdSpan, 3)
	hold(t, "`a``", 0, 4, 0, 1)
	hold(t, "``a``", 0, 1, 0, 1)
	hold(t, "``a``", 0, 4, 0, 2)
	hold(t, "`a\n`", 0, 4, 0, 1)
	hold(t, "`a\n", 0, 2, 0, 1)
	hold(t, "`\n`a`", 0, 5, 0, 1)
}

// P20.1: links that are their own text, whose address has a scheme.
func TestWebAddresses(t *testing.T) {
	letters := strings.Repeat("x", 40)
	for _, x := range []struct {
		address string
		is      bool
	}{
		{"ab:", true}, {"a1:", true}, {"a+.-:", true}, {"aB9:x", true}, {"http://a.b/c?d=e&f#g", true}, {"ab::", true}, {"ab:a:b", true}, {"ab:\xff\x80", true}, {"ab:`\\*", true},
		{"", false}, {":", false}, {"a:", false}, {"1a:", false}, {"+a:", false}, {"-a:b", false}, {".a:", false}, {"ab", false}, {"a_b:c", false}, {"\xc3\xa9a:b", false}, {"ab:c d", false}, {"ab:\tc", false}, {"ab:c\x7f", false}, {"ab:\x00", false}, {"ab:\x1f", false}, {"ab:<", false}, {" ab:c", false}, {"ab :c", false},
		{letters[:32] + ":", true}, {letters[:33] + ":", false}, {letters[:2] + ":", true}, {letters[:1] + ":", false}, {"ab:" + letters, true},
	} {
		if x.is {
			holdAnywhere(t, "<"+x.address+">", api.MdAuto, len(x.address)+2)
			holdAnywhere(t, "<"+x.address+">>", api.MdAuto, len(x.address)+2)
			text := "<" + x.address + ">"
			hold(t, text, 0, len(text)-1, 0, 1)
			hold(t, text[:len(text)-1], 0, len(text), 0, 1)
		} else {
			holdAll(t, "<"+x.address+">", 0, 1)
		}
	}
	for c := range 256 {
		b := string([]byte{byte(c)})
		is := c > 32 && c != '<' && c != '>' && c != 127
		want, to := uint8(0), 1
		if is {
			want, to = api.MdAuto, 6
		} else if b == ">" {
			want, to = api.MdAuto, 5
		}
		hold(t, "<ab:"+b+">\n", 0, 9, want, to)
	}
}

// P20.1: links that are their own text, whose address is a mailbox.
func TestMailAddresses(t *testing.T) {
	letters := strings.Repeat("x", 70)
	for _, x := range []struct {
		address string
		is      bool
	}{
		{"a@b", true}, {"a@b.c", true}, {"A.b+9@x-y.Z0", true}, {".@b", true}, {"!#$%&'*+/=?^_{|}~-@b", true}, {"'@b", true}, {"-@b", true}, {"a@b--c", true}, {"a@9", true}, {"a..b@c.d.e.f", true},
		{"@b", false}, {"a@", false}, {"a@.b", false}, {"a@b.", false}, {"a@b..c", false}, {"a@-b", false}, {"a@b-", false}, {"a@b.-c", false}, {"a@b-.c", false}, {"a@b_c", false}, {"a b@c", false}, {"a@b c", false}, {"a@b@c", false}, {"a\"@b", false}, {"a,@b", false}, {"(a)@b", false}, {"a:@b", false}, {"\xc3\xa9@b", false}, {"a@\xc3\xa9", false}, {"a\\@b", false},
		{"a@" + letters[:63], true}, {"a@" + letters[:64], false}, {"a@" + letters[:63] + "." + letters[:63], true}, {"a@b." + letters[:64], false}, {letters + "@b", true}, {"a@" + letters[:61] + "-x", true}, {"a@" + letters[:62] + "-x", false},
	} {
		if x.is {
			holdAnywhere(t, "<"+x.address+">", api.MdAuto, len(x.address)+2)
			text := strings.ReplaceAll("<"+x.address+">", "'", "`")
			hold(t, text, 0, len(text)-1, 0, 1)
		} else {
			holdAll(t, "<"+x.address+">", 0, 1)
		}
	}
	for c := range 256 {
		b := string([]byte{byte(c)})
		word := c >= '0' && c <= '9' || c >= 'A' && c <= 'Z' || c >= 'a' && c <= 'z'
		for _, x := range []struct {
			text string
			is   bool
		}{
			{"<" + b + "@b>", word || strings.Contains(".!#$%&'*+/=?^_{|}~-`", b)},
			{"<a@" + b + ">", word},
			{"<a@x" + b + ">", word},
			{"<a@x" + b + "y>", word || b == "-" || b == "."},
		} {
			if x.is {
				hold(t, x.text+"\n", 0, 99, api.MdAuto, len(x.text))
			} else if b != ">" {
				hold(t, x.text+"\n", 0, 99, 0, 1)
			}
		}
	}
	hold(t, "<a@x>y>", 0, 7, api.MdAuto, 5)
	// An address may be both: then it is one.
	hold(t, "<ab:c@d>", 0, 8, api.MdAuto, 8)
}

// P20.1: characters' names.
func TestEntities(t *testing.T) {
	for _, x := range []struct {
		name string
		is   bool
	}{
		{"amp", true}, {"lt", true}, {"gt", true}, {"quot", true}, {"nbsp", true}, {"copy", true}, {"reg", true}, {"hellip", true}, {"mdash", true}, {"ndash", true},
		{"#1", true}, {"#0", true}, {"#1234567", true}, {"#x1", true}, {"#X1", true}, {"#xabcdef", true}, {"#XABCDEF", true}, {"#x09aFfA", true},
		{"", false}, {"AMP", false}, {"Lt", false}, {"am", false}, {"ampx", false}, {"amp1", false}, {"amp ", false}, {" amp", false}, {"#", false}, {"#x", false}, {"#X", false}, {"#a", false}, {"#12345678", false}, {"#1a", false}, {"#x1234567", false}, {"#xg", false}, {"#xG", false}, {"#x1 ", false}, {"#-1", false}, {"##1", false}, {"apos", false}, {"x", false}, {"#xx1", false}, {"1", false},
	} {
		text := "&" + x.name
		if x.is {
			holdAnywhere(t, text+";", api.MdEntity, len(text)+1)
			holdAnywhere(t, text+";;", api.MdEntity, len(text)+1)
			hold(t, text+";", 0, len(text), 0, 1)
		} else {
			holdAll(t, text+";", 0, 1)
		}
		holdAll(t, text, 0, 1)
	}
}

// told tells leaves as words: "span 0 3, break 4 6".
func told(ev []api.Event) string {
	var l []string
	for _, e := range ev {
		word := words[e.Kind]
		if e.Op != api.OpLeaf {
			word = "op " + strconv.Itoa(int(e.Op)) + " " + word
		}
		l = append(l, word+" "+strconv.Itoa(e.At)+" "+strconv.Itoa(e.To))
	}
	return strings.Join(l, ", ")
}

// holdSpans holds what leaves a part has, ' being an accent.
func holdSpans(t *testing.T, line string, from, end int, want string) {
	t.Helper()
	line = strings.ReplaceAll(line, "'", "`")
	if ev := mdcode.Spans(line, from, end); told(ev) != want {
		t.Errorf("Spans(%.99q, %d, %d) tells %s, not %s", line, from, end, told(ev), want)
	}
}

// P20.2: the leaves of a part.
func TestSpans(t *testing.T) {
	holdSpans(t, "", 0, 9, "")
	holdSpans(t, "a b", 0, 3, "")
	holdSpans(t, "a 'b' \\* <c@d> &lt;  \n", 0, 99, "span 2 5, escape 6 8, auto 9 14, entity 15 19, break 19 21")
	holdSpans(t, "a 'b' \\* <c@d> &lt;  \n", 3, 99, "escape 6 8, auto 9 14, entity 15 19, break 19 21")
	holdSpans(t, "a 'b' \\* <c@d> &lt;  \n", 2, 15, "span 2 5, escape 6 8, auto 9 14")
	holdSpans(t, "a 'b' \\* <c@d> &lt;  \n", 2, 14, "span 2 5, escape 6 8, auto 9 14")
	holdSpans(t, "a 'b' \\* <c@d> &lt;  \n", 2, 13, "span 2 5, escape 6 8")
	holdSpans(t, "a 'b' \\* <c@d> &lt;  \n", 0, 20, "span 2 5, escape 6 8, auto 9 14, entity 15 19")
	holdSpans(t, "a'b''c'''d''e'f", 0, 99, "span 1 14")
	holdSpans(t, "a'b''c'''d''e", 0, 99, "span 3 12")
	holdSpans(t, "'a\\'b'", 0, 99, "span 0 4")
	holdSpans(t, "\\'a'b'", 0, 99, "escape 0 2, span 3 6")
	holdSpans(t, "\\\\\\", 0, 99, "escape 0 2, break 2 3")
	holdSpans(t, "<a'b:c>'", 0, 99, "span 2 8")
	holdSpans(t, "<ab:'c>'", 0, 99, "auto 0 7")
	holdSpans(t, "<<ab:c>>", 0, 99, "auto 1 7")
	holdSpans(t, "&&lt;;", 0, 99, "entity 1 5")
	holdSpans(t, "  a   b  ", 0, 99, "")
	holdSpans(t, "  a   b  \n", 0, 99, "break 7 9")
	holdSpans(t, "  a   b  \r\n", 0, 99, "break 7 9")
	holdSpans(t, "a \t  \n", 0, 99, "break 3 5")
	holdSpans(t, "a  \t \n", 0, 99, "")
	holdSpans(t, "    \n", 0, 99, "break 0 4")
	holdSpans(t, "    \n", 2, 99, "break 2 4")
	holdSpans(t, "    \n", 3, 99, "")
	holdSpans(t, "    \n", 0, 3, "")
	holdSpans(t, "'a'\n'b'", 0, 99, "span 0 3")
	holdSpans(t, "'a'\n'b'", 4, 99, "")
	holdSpans(t, "'a'", math.MaxInt, math.MaxInt, "")
	holdSpans(t, "'a'", 3, math.MaxInt, "")
	holdSpans(t, "'a'", 0, math.MinInt, "")
	holdSpans(t, "'a'", -1, 9, "")
	holdSpans(t, "'a'", math.MinInt, 9, "")
	holdSpans(t, "'a'\r\n", 0, 3, "span 0 3")
	holdSpans(t, "\\\r\n", 0, 3, "break 0 1")
	holdSpans(t, "\r\n", 0, 9, "")
}

// R3: what is told is new memory: what is written there is in no other answer.
func TestNewMemory(t *testing.T) {
	const line = "a `b` \\* <c@d> &lt;  \n"
	ev := mdcode.Spans(line, 0, 99)
	want := slices.Clone(ev)
	for i := range ev[:cap(ev)] {
		ev[:cap(ev)][i] = api.Event{Op: 9, At: 99}
	}
	if now := mdcode.Spans(line, 0, 99); !slices.Equal(now, want) {
		t.Errorf("Spans tells %s, and then %s", told(want), told(now))
	}
}
