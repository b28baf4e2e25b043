package mdlink_test

import (
	"math"
	"slices"
	"strconv"
	"strings"
	"testing"

	"indenture/api"
	"indenture/mdlink"
)

// lineEnds are what a line's end may be, and what plays no part behind it.
var lineEnds = []string{"", "\n", "\r\n", "\n)", "\r\n](x)\n", "\n]"}

// aheads are what may stand ahead of a part.
var aheads = []string{"", "a", "[", "![", "`", "\\", "\xff\x00", "](", "<", "(", "[a](b)"}

// told tells links as words: "0 6 of 1 2, image 7 14 of 9 10".
func told(l []mdlink.Link) string {
	var s []string
	for _, x := range l {
		word := ""
		if x.Image {
			word = "image "
		}
		s = append(s, word+strconv.Itoa(x.From)+" "+strconv.Itoa(x.To)+" of "+strconv.Itoa(x.Open)+" "+strconv.Itoa(x.Mid))
	}
	return strings.Join(s, ", ")
}

// moved are links n places further on.
func moved(l []mdlink.Link, n int) []mdlink.Link {
	l = slices.Clone(l)
	for i := range l {
		l[i].From, l[i].Open, l[i].Mid, l[i].To = l[i].From+n, l[i].Open+n, l[i].Mid+n, l[i].To+n
	}
	return l
}

// hold holds the links of a text, ' being an accent, whatever stands ahead of the part, and behind the line.
func hold(t *testing.T, text, want string, known ...string) {
	t.Helper()
	text = strings.ReplaceAll(text, "'", "`")
	l := mdlink.Links(text, 0, len(text), known)
	if told(l) != want {
		t.Errorf("Links(%.99q) with %q = %s, not %s", text, known, told(l), want)
	}
	for _, ahead := range aheads {
		for _, end := range lineEnds {
			for _, to := range []int{len(ahead + text), len(ahead+text) + 1, math.MaxInt} {
				line := ahead + text + end
				if now := mdlink.Links(line, len(ahead), to, known); !slices.Equal(now, moved(l, len(ahead))) {
					t.Errorf("Links(%.99q, %d, %d) with %q = %s, not %s", line, len(ahead), to, known, told(now), told(moved(l, len(ahead))))
				}
			}
		}
		// What stands behind the part plays no part.
		for _, behind := range []string{")", "]", "]]", "[]", "[a]", "(b)", "x"} {
			line := ahead + text + behind
			if now := mdlink.Links(line, len(ahead), len(ahead+text), known); !slices.Equal(now, moved(l, len(ahead))) {
				t.Errorf("Links(%.99q, %d, %d) with %q = %s, not %s", line, len(ahead), len(ahead+text), known, told(now), told(moved(l, len(ahead))))
			}
		}
	}
}

// holdTarget holds the target with which a text begins; 0 is none.
func holdTarget(t *testing.T, text string, want int) {
	t.Helper()
	for _, ahead := range aheads {
		for _, end := range lineEnds {
			for _, to := range []int{len(ahead + text), len(ahead+text) + 9, math.MaxInt} {
				line := ahead + text + end
				n, is := mdlink.Target(line, len(ahead), to)
				if is != (want > 0) || is && n != len(ahead)+want || !is && n != 0 {
					t.Errorf("Target(%.99q, %d, %d) = %d, %v, not %d", line, len(ahead), to, n, is, want)
				}
			}
		}
	}
	if want == 0 {
		return
	}
	if n, is := mdlink.Target(text+")\"", 0, want); !is || n != want {
		t.Errorf("Target(%.99q, up to %d) = %d, %v", text, want, n, is)
	}
	if n, is := mdlink.Target(text, 0, want-1); is || n != 0 {
		t.Errorf("Target(%.99q, up to %d) = %d, %v", text, want-1, n, is)
	}
}

// P22.1 to P22.3: the chapter's examples.
func TestExamples(t *testing.T) {
	hold(t, "[a](b)", "0 6 of 1 2")
	hold(t, `[a](<b c> "t")`, "0 14 of 1 2")
	hold(t, "[a](b(c)d)", "0 10 of 1 2")
	hold(t, "[a](b(c)", "")
	hold(t, "[a]( )", "0 6 of 1 2")
	hold(t, "[a]", "0 3 of 1 2", "a", "b")
	hold(t, "[a][]", "0 5 of 1 2", "a", "b")
	hold(t, "[a][B]", "0 6 of 1 2", "a", "b")
	hold(t, "[a][c]", "", "a", "b")
	hold(t, "![a](b)", "image 0 7 of 2 3")
	hold(t, "[a ![b](c) d](e)", "0 16 of 1 12, image 3 10 of 5 6")
	hold(t, "[a [b](c) d](e)", "3 9 of 4 5")
	hold(t, `[a\](b)`, "")
	hold(t, "[a '](b)'", "")
	holdMentions(t, "[B] [a b][C] [] [d[e]", "a b", "b", "c", "e")
}

// P22.1: what stands between the parentheses.
func TestTarget(t *testing.T) {
	for text, want := range map[string]int{
		"()": 2, "(  )": 4, "( \t )": 5, "(a)": 3, "( a )": 5, "(\ta\t)": 5, "(a)b": 3, "(a))": 3, "(a) )": 3,
		"": 0, "(": 0, "a": 0, ")": 0, "[a]": 0, " (a)": 0, "(a": 0, "( ": 0, "(a ": 0, "(a b)": 0, "(a b": 0,
		// A goal with < and >.
		"(<a>)": 5, "(<>)": 4, "( <a b> )": 9, "(<a)b>)": 7, "(<(>)": 5, `(<a\>>)`: 7, `(<a\\>)`: 7, "(<a": 0, "(<a)": 0, "(<a>b)": 0, "(<a<>)": 0, "(<a>": 0, "(a<b>)": 6, "(\\<a)": 5, "(<\x01>)": 5,
		// One without.
		"(a(b)c)": 7, "((a))": 5, "(())": 4, "((()))": 6, "(()())": 6, "(a(b)": 0, "((a)": 0, "(a(b c)": 0, "(a(b) )": 7, "(a(b) c)": 0,
		`(a\)b)`: 6, `(a\(b)`: 6, `(a\)`: 0, `(\()`: 4, `(\))`: 4, `(a\\)`: 5, `(a\\\))`: 7, `(a\b)`: 5, `(a\)(b)c)`: 9, `(a\ b)`: 0, `(a\ )`: 5, `(\`: 0, `(a(\))`: 0, `(a(\)))`: 7, `((\())`: 6, "(\\\xff)": 4,
		"(\x7f)": 0, "(\x00)": 0, "(a\x1fb)": 0, "(a\vb)": 0, "(\f)": 0, "(a\r)": 0, "(\x80\xff)": 4, "(!\"#)": 5, "(\")": 3, "('a')": 5, "(\"a b\")": 0, "(a)(": 3,
		// A title behind it.
		`(a "t")`: 7, `(a 't')`: 7, `(a (t))`: 7, `( a  "t" )`: 10, "(a\t\"\")": 6, `(<a> "t")`: 9, `(a "t" "u")`: 0, `(a "t" b)`: 0, `(a "t`: 0, `(a "t"`: 0, `(a "t" `: 0, `(a"t")`: 6, `(<a>"t")`: 0, `("t")`: 5, `( "t")`: 6, `( "t" "u")`: 10, `(<> "t")`: 8, `(a "t)`: 0, `(a 't"')`: 8, `(a "t\"u")`: 10, `(a (t(u)))`: 0, `(a (t\(u))`: 10, `(a ())`: 6, `(a () )`: 7, `(a (`: 0, `(a )`: 4, `(a (t)`: 0, "(a 't)')": 8, "(a \"\x00 \xff\")": 9,
		`( (t))`: 6, `( (t)`: 0, "(a( \"t\")": 0, `(a \"t")`: 0, `(a) "t")`: 3,
	} {
		holdTarget(t, text, want)
	}
	for c := range 256 {
		b := string([]byte{byte(c)})
		switch {
		case c == 10, c == 13, strings.Contains("()<\\ \t", b):
		case c <= 32 || c == 127:
			holdTarget(t, "("+b+")", 0)
			holdTarget(t, "(a"+b+")", 0)
			holdTarget(t, "(a"+b+`"t")`, 0)
			holdTarget(t, `(a "t"`+b+")", 0)
		default:
			holdTarget(t, "("+b+")", 3)
			holdTarget(t, "(a"+b+")", 4)
			holdTarget(t, "(a \""+strings.ReplaceAll(b, `"`, "")+"\")", 6+len(strings.ReplaceAll(b, `"`, "")))
		}
	}
}

// P22.1, P22.2, P22.3: places that are none of the part.
func TestNoPlace(t *testing.T) {
	const line = "[a](b)(c)\n[a](d)"
	for _, at := range []int{math.MinInt, -1, 9, 10, 13, 16, 17, math.MaxInt} {
		for _, end := range []int{math.MinInt, -1, 0, 5, 9, 10, 16, 99, math.MaxInt} {
			if n, is := mdlink.Target(line, at, end); n != 0 || is {
				t.Errorf("Target(%q, %d, %d) = %d, %v", line, at, end, n, is)
			}
			if l := mdlink.Links(line, at, end, []string{"a"}); len(l) != 0 {
				t.Errorf("Links(%q, %d, %d) = %v", line, at, end, l)
			}
			if l := mdlink.Mentions(line, at, end); len(l) != 0 {
				t.Errorf("Mentions(%q, %d, %d) = %q", line, at, end, l)
			}
		}
	}
	for _, at := range []int{3, 6} {
		if n, is := mdlink.Target(line, at, at); n != 0 || is {
			t.Errorf("Target(%q, %d, %d) = %d, %v", line, at, at, n, is)
		}
		if n, is := mdlink.Target(line, at, 99); n != at+3 || !is {
			t.Errorf("Target(%q, %d) = %d, %v", line, at, n, is)
		}
	}
	if l := mdlink.Links(line, 0, 99, []string{"a"}); told(l) != "0 6 of 1 2" {
		t.Errorf("Links(%q) = %s", line, told(l))
	}
	if l := mdlink.Links(line, 0, 5, []string{"a"}); told(l) != "0 3 of 1 2" {
		t.Errorf("Links(%q, 0, 5) = %s", line, told(l))
	}
	if l := mdlink.Links(line, 0, 2, []string{"a"}); len(l) != 0 {
		t.Errorf("Links(%q, 0, 2) = %s", line, told(l))
	}
}

// P22.2: links by their targets.
func TestTargets(t *testing.T) {
	hold(t, "a [b](c) d", "2 8 of 3 4")
	hold(t, "[](b)", "0 5 of 1 1")
	hold(t, "![](b)", "image 0 6 of 2 2")
	hold(t, "[ ]()", "0 5 of 1 2")
	hold(t, "[a](b)[c](d)", "0 6 of 1 2, 6 12 of 7 8")
	hold(t, "[a](b)(c)", "0 6 of 1 2")
	hold(t, "[a] (b)", "")
	hold(t, "[a] (b)", "0 3 of 1 2", "a")
	hold(t, "[a](b c)", "0 3 of 1 2", "a")
	hold(t, "[a](b c)", "", "b")
	hold(t, "a](b)", "")
	hold(t, "]]][a](b)", "3 9 of 4 5")
	hold(t, "[[a](b)", "1 7 of 2 3")
	hold(t, "[a](b)]", "0 6 of 1 2")
	hold(t, "[a[b]c](d)", "0 10 of 1 6")
	hold(t, "[a](b[c](d)e)", "0 13 of 1 2")
	hold(t, "[a](b[c](d)", "5 11 of 6 7")
	hold(t, "[a](b[c](d \"t\")", "5 15 of 6 7")
	hold(t, "[a](b[c](d(e \"t\")", "")
	hold(t, "[a](b[c](d(e[f](g)", "12 18 of 13 14")
	hold(t, "[a](b[c](d[e](f[g](h)", "15 21 of 16 17")
	hold(t, "[a](b[c](d)[e](f)", "5 11 of 6 7, 11 17 of 12 13")
	hold(t, "[a](b[c]([e](f))", "5 16 of 6 7")
	hold(t, "[a](b[c](<d>)", "5 13 of 6 7")
	hold(t, "[a](b[c]( d)", "5 12 of 6 7")
	hold(t, "[a](b[c]()", "5 10 of 6 7")
	hold(t, "[a](((b", "")
	hold(t, "[a]((([b](c", "")
	hold(t, "[a](<b)", "")
	hold(t, "[a](<b)[c](d>)", "0 14 of 1 2")
}

// P22.2: links by their labels.
func TestLabels(t *testing.T) {
	hold(t, "[a]", "")
	hold(t, "[a]", "", "b")
	hold(t, "[A  b]", "0 6 of 1 5", "a b")
	hold(t, "[A  b]", "", "A  b", "A b", "ab")
	hold(t, "[a][b]", "0 6 of 1 2", "b")
	hold(t, "[a][b]", "", "a")
	hold(t, "[a][b]", "0 6 of 1 2", "a", "b")
	hold(t, "[a][b][c]", "3 9 of 4 5", "c")
	hold(t, "[a][b][c]", "0 6 of 1 2, 6 9 of 7 8", "b", "c")
	hold(t, "[a][b][c]", "0 6 of 1 2", "a", "b")
	hold(t, "[a][]", "", "b", "")
	hold(t, "[a][][b]", "0 5 of 1 2, 5 8 of 6 7", "a", "b")
	hold(t, "[a][][b]", "3 8 of 4 4", "b")
	hold(t, "[a][ ]", "0 3 of 1 2", "a")
	hold(t, "[a] [b]", "0 3 of 1 2, 4 7 of 5 6", "a", "b")
	hold(t, "[a]b", "0 3 of 1 2", "a")
	hold(t, "[a](b]", "0 3 of 1 2", "a")
	hold(t, "[a](b)", "0 6 of 1 2", "a")
	hold(t, "[]", "", "")
	hold(t, "[ ]", "", "", " ")
	hold(t, "[][]", "", "")
	hold(t, "[][a]", "0 5 of 1 1", "a")
	hold(t, "[\ta \t B ]", "0 9 of 1 8", "a b")
	hold(t, "[\xc3\x89]", "0 4 of 1 3", "\xc3\x89")
	hold(t, "[\xff\x00]", "0 4 of 1 3", "\xff\x00")
	hold(t, `[a\]b]`, "0 6 of 1 5", `a\]b`)
	hold(t, `[a\]b]`, "", "a]b", "a")
	hold(t, `[a\[b][]`, "0 8 of 1 5", `a\[b`)
	hold(t, `[a][b\]c]`, "0 9 of 1 2", `b\]c`)
	hold(t, `[a\\][b\\]`, "0 10 of 1 4", `b\\`)
	hold(t, `[a][b\]`, "", `b\`, `b\]`)
	// A label holds no brackets; but a link's text may.
	hold(t, "[a[b]]", "", "a[b]", "a")
	hold(t, "[a[b]]", "2 5 of 3 4", "b")
	hold(t, "[a[b]c][d]", "0 10 of 1 6", "d")
	hold(t, "[a[b]c][]", "", "a[b]c")
	hold(t, "[a][b[c]]", "0 3 of 1 2, 5 8 of 6 7", "a", "c")
	// Its bytes are read as they stand, be they code or not.
	hold(t, "['a']", "0 5 of 1 4", "`a`")
	hold(t, "['a]']", "", "`a]`", "`a")
	hold(t, "['a\\]']", "0 7 of 1 6", "`a\\]`")
	hold(t, "[a]['b]']", "0 7 of 1 2", "`b")
	hold(t, "[a](b'c)'", "0 8 of 1 2")
	long := strings.Repeat("x", api.MaxLabel)
	hold(t, "["+long+"]", "0 202 of 1 201", long)
	hold(t, "["+long+"][]", "0 204 of 1 201", long)
	hold(t, "[a]["+long+"]", "0 205 of 1 2", long)
	hold(t, "["+long+"x]", "", long, long+"x")
	hold(t, "["+long+"x][]", "", long, long+"x")
	hold(t, "[a]["+long+"x]", "0 3 of 1 2", "a", long, long+"x")
	hold(t, "["+long+"x](b)", "0 206 of 1 202")
	hold(t, `[`+long[2:]+`\]]`, "0 202 of 1 201", long[2:]+`\]`)
	hold(t, `[`+long[1:]+`\]]`, "", long[1:]+`\]`)
}

// P22.2: images, and what lies within links.
func TestImages(t *testing.T) {
	hold(t, "![a]", "image 0 4 of 2 3", "a")
	hold(t, "![a][]", "image 0 6 of 2 3", "a")
	hold(t, "![a][b]", "image 0 7 of 2 3", "b")
	hold(t, "![A b][]", "image 0 8 of 2 5", "a b")
	hold(t, "!![a](b)", "image 1 8 of 3 4")
	hold(t, "! [a](b)", "2 8 of 3 4")
	hold(t, `\![a](b)`, "2 8 of 3 4")
	hold(t, `!\[a](b)`, "")
	hold(t, "[![a](b)](c)", "0 12 of 1 8, image 1 8 of 3 4")
	hold(t, "![[a](b)](c)", "image 0 12 of 2 8, 2 8 of 3 4")
	hold(t, "![![a](b)](c)", "image 0 13 of 2 9, image 2 9 of 4 5")
	hold(t, "[[a](b)](c)", "1 7 of 2 3")
	hold(t, "[[a](b)] [c](d)", "1 7 of 2 3, 9 15 of 10 11")
	hold(t, "[![[a](b)](c)](d)", "image 1 13 of 3 9, 3 9 of 4 5")
	hold(t, "![[[a](b)](c)](d)", "image 0 17 of 2 13, 3 9 of 4 5")
	hold(t, "[a![b](c)", "image 2 9 of 4 5")
	hold(t, "[a [b] c](d)", "0 12 of 1 8")
	hold(t, "[a [b] c](d)", "3 6 of 4 5", "b")
	hold(t, "[a ![b] c](d)", "0 13 of 1 9, image 3 7 of 5 6", "b")
	hold(t, "[a [b](c)][d]", "3 9 of 4 5, 10 13 of 11 12", "d")
	hold(t, "[a [b](c)](d) [e](f) ![g](h)", "3 9 of 4 5, 14 20 of 15 16, image 21 28 of 23 24")
	hold(t, "[a ![b [c](d)](e)", "image 3 17 of 5 13, 7 13 of 8 9")
	hold(t, "![a](b", "")
	hold(t, "!a](b)", "")
	hold(t, "!", "")
	hold(t, "![", "")
}

// P22.2: what nothing reaches into.
func TestWhatIsReadOver(t *testing.T) {
	hold(t, "'[a](b)'", "")
	hold(t, "['a](b)'](c)", "0 12 of 1 8")
	hold(t, "'[a'](b)", "")
	hold(t, "['a](b)", "0 7 of 1 3")
	hold(t, "[''a'](b)''", "")
	hold(t, "<ab:[a](b)>", "")
	hold(t, "[<ab:](b)>](c)", "0 14 of 1 10")
	hold(t, "[<a:](b)>](c)", "0 8 of 1 4")
	hold(t, `\[a](b)`, "")
	hold(t, `\\[a](b)`, "2 8 of 3 4")
	hold(t, `[a\](b)`, "")
	hold(t, `[a\\](b)`, "0 8 of 1 4")
	hold(t, `[a]\(b)`, "")
	hold(t, `[a]\[b]`, "0 3 of 1 2", "a", "b")
	hold(t, "[&lt;](b)", "0 9 of 1 5")
	hold(t, "[a](b'c) '", "0 8 of 1 2")
	hold(t, "[a   b](c)   ", "0 10 of 1 6")
	hold(t, "[a   ](c)\\", "0 9 of 1 5")
	hold(t, "   [a](c)", "3 9 of 4 5")
	hold(t, "[''](b)", "0 7 of 1 3")
	hold(t, "[''](b)''", "")
}

// holdMentions holds the labels that stand in a text.
func holdMentions(t *testing.T, text string, want ...string) {
	t.Helper()
	for _, ahead := range aheads {
		for _, end := range []string{"", "\n", "\r\n", "\n[z]", "\r\n]"} {
			line := ahead + text + end
			if l := mdlink.Mentions(line, len(ahead), math.MaxInt); !slices.Equal(l, want) {
				t.Errorf("Mentions(%.99q, %d) = %q, not %q", line, len(ahead), l, want)
			}
		}
		line := ahead + text + "]y]"
		if l := mdlink.Mentions(line, len(ahead), len(ahead+text)); !slices.Equal(l, want) {
			t.Errorf("Mentions(%.99q, %d, %d) = %q, not %q", line, len(ahead), len(ahead+text), l, want)
		}
	}
}

// P22.3: the labels that stand in a part.
func TestMentions(t *testing.T) {
	holdMentions(t, "")
	holdMentions(t, "a")
	holdMentions(t, "[a]", "a")
	holdMentions(t, "[a] [A] [ a ]", "a")
	holdMentions(t, "[b][a]", "a", "b")
	holdMentions(t, "[b a][b  B][c\tA]", "b a", "b b", "c a")
	holdMentions(t, "[aa][a][ab][B][b]", "a", "aa", "ab", "b")
	holdMentions(t, "[[a]", "a")
	holdMentions(t, "[a[b]c]", "b")
	holdMentions(t, "[][ ][\t]")
	holdMentions(t, "[a")
	holdMentions(t, "a]")
	holdMentions(t, "![a](b)", "a")
	holdMentions(t, `\[a]`, "a")
	holdMentions(t, `[a\]b]`, `a\]b`)
	holdMentions(t, `[a\[b]`, `a\[b`, "b")
	holdMentions(t, `[a\]`)
	holdMentions(t, "`[a]`", "a")
	holdMentions(t, "[`a]`", "`a")
	holdMentions(t, "<ab:[a]>", "a")
	holdMentions(t, "[\xff][\xc3\x89][z]", "z", "\xc3\x89", "\xff")
	long := strings.Repeat("x", api.MaxLabel)
	holdMentions(t, "["+long+"] [y"+long+"] ["+long[1:]+"y]", long, long[1:]+"y")
	if l := mdlink.Mentions("[a][b][c]", 1, 8); !slices.Equal(l, []string{"b"}) {
		t.Errorf("Mentions tells %q", l)
	}
}

// R3: what is handed in is not changed, and what is told is new memory: what is written there is in no other answer.
func TestNewMemory(t *testing.T) {
	const line = "[a][b] [c ![d](e)](f) [B] [A]"
	known := []string{"b", "a", "a", "c"}
	l := mdlink.Links(line, 0, 99, known)
	want, wantLabels := told(l), mdlink.Mentions(line, 0, 99)
	if !slices.Equal(known, []string{"b", "a", "a", "c"}) {
		t.Errorf("the known labels are %q", known)
	}
	for i := range l[:cap(l)] {
		l[:cap(l)][i] = mdlink.Link{From: 99}
	}
	labels := mdlink.Mentions(line, 0, 99)
	for i := range labels[:cap(labels)] {
		labels[:cap(labels)][i] = "z"
	}
	if now := told(mdlink.Links(line, 0, 99, known)); now != want {
		t.Errorf("Links tells %s, and then %s", want, now)
	}
	if now := mdlink.Mentions(line, 0, 99); !slices.Equal(now, wantLabels) {
		t.Errorf("Mentions tells %q, and then %q", wantLabels, now)
	}
}
