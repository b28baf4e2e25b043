package mdlabel_test

import (
	"math"
	"strings"
	"testing"

	"indenture/api"
	"indenture/mdlabel"
)

// reading is one of Read, Dest and Title.
type reading struct {
	name string
	of   func(line string, at, end int) (int, bool)
}

var (
	label = reading{"Read", mdlabel.Read}
	dest  = reading{"Dest", mdlabel.Dest}
	title = reading{"Title", mdlabel.Title}
)

// hold holds what is read of a line from at on, up to end; 0 is nothing.
func (r reading) hold(t *testing.T, line string, at, end, want int) {
	t.Helper()
	if to, is := r.of(line, at, end); to != want || is != (want > 0) {
		t.Errorf("%s(%.99q, %d, %d) = %d, %v, not %d", r.name, line, at, end, to, is, want)
	}
}

// around are what may stand around what is read, of which the last byte ahead and the first one behind play no part.
var around = [][2]string{{"", ""}, {"a", ""}, {"", "\n"}, {"[", "\r\n"}, {"\\", "]"}, {"\xff<", ">\n"}, {"\"('", ")'\""}, {" ", " x"}, {"\r", "\\"}}

// holdAll holds what is read of a text, whatever stands ahead of it and behind the end up to which is read.
func (r reading) holdAll(t *testing.T, text string, want int) {
	t.Helper()
	for _, x := range around {
		at := len(x[0])
		now := 0
		if want > 0 {
			now = at + want
		}
		r.hold(t, x[0]+text+x[1], at, at+len(text), now)
	}
	r.hold(t, text, 0, math.MaxInt, want)
	r.hold(t, text+"\n", 0, len(text)+1, want)
	r.hold(t, text+"\r\n", 0, len(text)+2, want)
	r.hold(t, text+"\n]>)'\"", 0, len(text)+6, want)
}

// holdFold holds a folded form.
func holdFold(t *testing.T, bytes, want string) {
	t.Helper()
	if s := mdlabel.Fold(bytes); s != want {
		t.Errorf("Fold(%.99q) = %.99q, not %.99q", bytes, s, want)
	}
}

// holdSkip holds what Skip tells.
func holdSkip(t *testing.T, line string, at, end, want int) {
	t.Helper()
	if k := mdlabel.Skip(line, at, end); k != want {
		t.Errorf("Skip(%.99q, %d, %d) = %d, not %d", line, at, end, k, want)
	}
}

// holdDef holds what a line defines from at on; to 0 is nothing.
func holdDef(t *testing.T, line string, at int, want string, to int) {
	t.Helper()
	if name, end, is := mdlabel.Def(line, at); name != want || end != to || is != (to > 0) {
		t.Errorf("Def(%.99q, %d) = %.99q, %d, %v, not %.99q, %d", line, at, name, end, is, want, to)
	}
}

// P17.1 to P17.3: the chapter's examples.
func TestExamples(t *testing.T) {
	long := strings.Repeat("a", api.MaxLabel)
	holdFold(t, " Foo \t bar ", "foo bar")
	holdFold(t, "\u00c9", "\u00c9")
	holdFold(t, " \t ", "")
	for text, want := range map[string]int{"[a]b": 3, "[]": 0, "[ ]": 0, `[a\]b]`: 6, "[a[b]]": 0, "[" + long + "]": 202, "[" + long + "a]": 0} {
		label.hold(t, text, 0, len(text), want)
	}
	for text, want := range map[string]int{"a(b) c": 4, "<a b>": 5, "<a<b>": 0, "<>": 2} {
		dest.hold(t, text, 0, len(text), want)
	}
	for text, want := range map[string]int{`"a" b`: 3, `'a\'b'`: 6, "(a(b))": 0, `"a)`: 0} {
		title.hold(t, text, 0, len(text), want)
	}
	holdDef(t, "[A b]: c", 0, "a b", 8)
	holdDef(t, `[a]:<c> "t" `, 0, "a", 11)
	holdDef(t, "[a]: c d", 0, "", 0)
	holdDef(t, "[a] : c", 0, "", 0)
	holdDef(t, "[a]:", 0, "", 0)
}

// P17.1: the folded form.
func TestFold(t *testing.T) {
	for bytes, want := range map[string]string{
		"": "", " ": "", "\t": "", "a": "a", " a": "a", "a\t": "a", "\t a \t": "a",
		"a b": "a b", "a  b": "a b", "a\tb": "a b", "a \t b\t\tc": "a b c", " a b ": "a b",
		"ABCXYZ": "abcxyz", "aBc": "abc", "@[`{": "@[`{", "AZ az 09 _": "az az 09 _",
		// No other byte is a blank, or a capital.
		"a\nb": "a\nb", "\ra\v\fb\r": "\ra\v\fb\r", "a\u00a0b": "a\u00a0b", "\u2003a": "\u2003a", "\x00": "\x00",
		"\u00c9\u0130\u212a\u1e9e": "\u00c9\u0130\u212a\u1e9e", "\xc3": "\xc3", "\xff \xfeA\x80": "\xff \xfea\x80", "\xc3 \x89": "\xc3 \x89", "\xe2\x84 B": "\xe2\x84 b",
		// What a backslash takes along stays, and so does the backslash.
		`\]`: `\]`, `A\[ \] B`: `a\[ \] b`, `\\ \A`: `\\ \a`, `"A"`: `"a"`,
	} {
		holdFold(t, bytes, want)
	}
	for c := range 256 {
		b := string([]byte{byte(c)})
		want := b
		if c >= 65 && c <= 90 {
			want = string([]byte{byte(c + 32)})
		}
		if c == 32 || c == 9 {
			holdFold(t, b, "")
			holdFold(t, "x"+b+"y", "x y")
			holdFold(t, b+"x"+b+b, "x")
			continue
		}
		holdFold(t, b, want)
		holdFold(t, " "+b+"\t \t"+b+b+" ", want+" "+want+want)
	}
	holdFold(t, strings.Repeat(" \tA", api.MaxText), strings.Repeat("a ", api.MaxText-1)+"a")
}

// P17.2: labels.
func TestRead(t *testing.T) {
	for text, want := range map[string]int{
		"": 0, "[": 0, "]": 0, "a": 0, "a]": 0, "(a]": 0, " [a]": 0, "][a]": 0,
		"[a]": 3, "[a b]": 5, "[ a ]": 5, "[\ta]": 4, "[a": 0, "[a)": 0, "[a]]": 3, "[a][b]": 3, "[a](b)": 3, "[a]:": 3,
		// All but blanks are enough.
		"[]": 0, "[ ]": 0, "[\t]": 0, "[ \t  ]": 0, "[] ]": 0, "[.]": 3, "[\r]": 3, "[\v]": 3, "[\x00]": 3, "[\xff]": 3, "[\u00a0]": 4, "[ . ]": 5,
		// Brackets within.
		"[[]": 0, "[[a]": 0, "[a[]": 0, "[a[b]]": 0, "[]a]": 0,
		`[\]`: 0, `[\]]`: 4, `[\[]`: 4, `[\[\]]`: 6, `[a\]`: 0, `[a\]b]`: 6, `[a\[b]`: 6, `[\[a]]`: 5,
		// A backslash that another one took takes nothing; one ahead of what is no mark is a byte like others.
		`[\\]`: 4, `[\\]]`: 4, `[\\\]]`: 6, `[\\\]`: 0, `[\\[]`: 0, `[\\\[]`: 6, `[\a]`: 4, `[\ ]`: 4, `[\`: 0, `[a\`: 0, `[a\\`: 0, `[\a\]`: 0, `[\ \]]`: 6, `\[a]`: 0,
		// All other signs are none here.
		"[<a>]": 5, "[\"'(]": 5, "[`]`": 3, "[!*_#]": 6, "[^a]": 4,
	} {
		label.holdAll(t, text, want)
	}
	label.hold(t, "[a\r]\n", 0, 5, 4)
	label.hold(t, "[a]", 1, 3, 0)
	label.hold(t, "a[b]c", 1, 5, 4)
}

// P17.2: labels of as many bytes as may be, and of one more.
func TestLongLabels(t *testing.T) {
	for _, x := range []string{"a", "\xff", "\\]", "\\\\", "\\a", "a ", " ", "\u00e9"} {
		for n := api.MaxLabel - 2; n <= api.MaxLabel+3; n++ {
			bytes := strings.Repeat(x, n)[:n]
			if n%2 == 1 && x[0] == '\\' {
				bytes = bytes[:n-1] + "b"
			}
			want := n + 2
			if n > api.MaxLabel || x == " " {
				want = 0
			}
			label.holdAll(t, "["+bytes+"]", want)
			label.holdAll(t, "["+bytes+"]]", want)
			label.holdAll(t, "["+bytes, 0)
		}
	}
	// A backslash that is the last byte that may be takes the ] along.
	long := strings.Repeat("a", api.MaxLabel-1)
	label.holdAll(t, "["+long+`\]`, 0)
	label.holdAll(t, "["+long+`\]]`, 0)
	label.holdAll(t, "["+long[1:]+`\]]`, api.MaxLabel+2)
	label.holdAll(t, "["+long[1:]+`\\]`, api.MaxLabel+2)
}

// P17.2: destinations.
func TestDest(t *testing.T) {
	for text, want := range map[string]int{
		"": 0, " ": 0, "\t": 0, "\x00": 0, "\x1f": 0, "\x7f": 0, "\x7fa": 0, " a": 0,
		"a": 1, "abc": 3, "a b": 1, "a\tb": 1, "a\x00b": 1, "a\x1fb": 1, "a\x7fb": 1, "a\rb": 1, "\x80": 1, "\xff": 1, "\u00e9x": 3, "!": 1, "~": 1,
		"(": 1, ")": 1, "a(b) c": 4, "((": 2, "a)": 2, "]": 1, ">": 1, ">a": 2, "a<b": 3, "a<b>c": 5, "\"": 1, "'a'": 3, "\"a b\"": 2,
		`\`: 1, `\ a`: 1, `\<a`: 3, `a\ b`: 2, `\)`: 2, `a\`: 2,
		"<": 0, "<>": 2, "<a>": 3, "<a b>": 5, "<a": 0, "<a>b": 3, "<a><b>": 3, "< >": 3, "<\t\x00\x7f\r>": 6, "<a<b>": 0, "<<>": 0, "<<>>": 0, "<a b": 0, "<()[]\"'>": 8, "< a": 0,
		`<\>`: 0, `<\>>`: 4, `<\<>`: 4, `<\\>`: 4, `<\\>>`: 4, `<\\\>>`: 6, `<\\<>`: 0, `<a\`: 0, `<\`: 0, `<\a>`: 4, `<\ >`: 4, `<a\>b>`: 6,
	} {
		dest.holdAll(t, text, want)
	}
	dest.hold(t, "<a\r>\n", 0, 5, 4)
	dest.hold(t, "a\r\n", 0, 3, 1)
	dest.hold(t, "a\n", 0, 2, 1)
	dest.hold(t, "\n", 0, 1, 0)
	for c := range 256 {
		want := 2
		if c <= 32 || c == 127 {
			want = 1
		}
		dest.hold(t, "a"+string([]byte{byte(c)}), 0, 2, want)
	}
}

// P17.2: titles.
func TestTitle(t *testing.T) {
	for text, want := range map[string]int{
		"": 0, "a": 0, " \"a\"": 0, "[a]": 0, "<a>": 0, ")": 0, "`a`": 0,
		`"`: 0, `""`: 2, `"a"`: 3, `"a`: 0, `"a b" c`: 5, `"a""`: 3, `"a'b(c"`: 7, "\"\t\x00\r\xff\"": 6, `"a"b"`: 3,
		`"\""`: 4, `"\"`: 0, `"\\"`: 4, `"\\""`: 4, `"\\\""`: 6, `"\a"`: 4, `"\'"`: 4, `"\`: 0, `"a\"b"`: 6,
		"'": 0, "''": 2, "'a'": 3, "'a": 0, "'a\"(b'": 6, `'\''`: 4, `'\'`: 0, `'\\'`: 4, `'a'b'`: 3,
		"(": 0, "()": 2, "(a)": 3, "(a": 0, "(a))": 3, "(a(b)": 0, "(a(b))": 0, "(()": 0, "(\"a')": 5,
		`(\))`: 4, `(\()`: 4, `(\)`: 0, `(\\)`: 4, `(\\()`: 0, `(a\(b\)c)`: 9, `\(a)`: 0, `\"a"`: 0,
	} {
		title.holdAll(t, text, want)
	}
	title.hold(t, "'a\r'\n", 0, 5, 4)
	title.hold(t, "\"a\nb\"", 0, 5, 0)
	title.hold(t, "\"a\r\nb\"", 0, 6, 0)
}

// P17.2: what is read ends up to end, be it ahead of the line's end or behind it, and nothing behind that plays a part.
func TestEnds(t *testing.T) {
	for _, x := range []struct {
		of   reading
		text string
	}{{label, "[a b]"}, {label, `[\]]`}, {dest, "<a b>"}, {dest, `<\>>`}, {title, `"a b"`}, {title, `"\""`}, {title, "(a)"}, {title, "''"}} {
		n := len(x.text)
		for end := -2; end < n; end++ {
			x.of.hold(t, x.text+"\n", 0, end, 0)
		}
		for _, end := range []int{n, n + 1, n + 2, 1 << 40, math.MaxInt} {
			for _, tail := range []string{"", "\n", "\r\n", "\n" + x.text} {
				x.of.hold(t, x.text+tail, 0, end, n)
			}
		}
		x.of.hold(t, x.text, 0, math.MinInt, 0)
		// A byte 13 right ahead of the LF is of the line's end.
		x.of.hold(t, x.text[:n-1]+"\n", 0, n, 0)
		x.of.hold(t, x.text[:n-1]+"\r\n"+x.text[n-1:], 0, n+2, 0)
	}
	for end := range 8 {
		dest.hold(t, "abcd\r\nef", 0, end, min(end, 4))
		dest.hold(t, "abcd\nef", 0, end, min(end, 4))
	}
	// A backslash takes along nothing that is not ahead of end.
	label.hold(t, `[a\]]`, 0, 4, 0)
	label.hold(t, `[a\]]`, 0, 5, 5)
}

// P17.2: of a place below 0, or not ahead of end, nothing is read, and Skip answers it.
func TestPlacesThatAreNone(t *testing.T) {
	for _, line := range []string{"", "\n", "\r\n", "a", "[a] <b> \"c\"", "   ", "(a)\n  ", "'a'\r\n"} {
		own := strings.TrimRight(strings.SplitAfter(line, "\n")[0], "\r\n")
		for _, at := range []int{math.MinInt, -1 << 40, -2, -1, len(own), len(own) + 1, len(own) + 2, len(line), 1 << 40, math.MaxInt} {
			for _, end := range []int{math.MinInt, -1, 0, 1, len(own), len(own) + 1, len(line), 1 << 40, math.MaxInt} {
				for _, r := range []reading{label, dest, title} {
					if at < 0 || at >= len(own) {
						r.hold(t, line, at, end, 0)
					}
				}
				if at < 0 || at >= len(own) {
					holdSkip(t, line, at, end, at)
				}
			}
			if at < 0 || at >= len(own) {
				holdDef(t, line, at, "", 0)
			}
		}
		for end := -1; end <= len(own); end++ {
			for at := max(end, 0); at <= len(own); at++ {
				for _, r := range []reading{label, dest, title} {
					r.hold(t, line, at, end, 0)
				}
				holdSkip(t, line, at, end, at)
			}
		}
	}
}

// P17.2: Skip.
func TestSkip(t *testing.T) {
	for _, x := range []struct {
		line          string
		at, end, want int
	}{
		{"a", 0, 1, 0}, {" a", 0, 2, 1}, {" \t a", 0, 4, 3}, {" \t a", 2, 4, 3}, {"a  ", 0, 3, 0}, {"a  ", 1, 3, 3}, {"a  ", 2, 3, 3},
		{"   ", 0, 3, 3}, {"   ", 0, 2, 2}, {"   ", 0, 9, 3}, {"   ", 0, math.MaxInt, 3}, {"  \n", 0, 9, 2}, {"  \r\n", 0, 9, 2}, {"  \r", 0, 9, 2}, {"  \r ", 1, 9, 2},
		{" \n  a", 0, 5, 1}, {" \r\n  a", 0, 6, 1}, {" \v", 0, 2, 1}, {" \f", 0, 2, 1}, {"\x00", 0, 1, 0}, {" \u00a0", 0, 3, 1}, {" \xff", 0, 2, 1}, {" \x1f", 0, 2, 1}, {" !", 0, 2, 1},
		{"  x", 0, 1, 1}, {"  x", 1, 1, 1}, {"  x", 2, 1, 2}, {"  x", -1, 3, -1}, {" ", 0, -5, 0}, {"  ", 1, 0, 1},
	} {
		holdSkip(t, x.line, x.at, x.end, x.want)
	}
}

// P17.3: lines that define a label.
func TestDef(t *testing.T) {
	for _, x := range []struct {
		line, name string
		to         int
	}{
		{"[a]:b", "a", 5}, {"[a]: b", "a", 6}, {"[a]:\t b", "a", 7}, {"[a]: b  ", "a", 6}, {"[a]: b\t", "a", 6},
		{"[ A  \tB ]: c", "a b", 12}, {`[\]]: b`, `\]`, 7}, {"[\u00c9]: b", "\u00c9", 7}, {"[\xffA]: b", "\xffa", 7},
		{"[a]:<b>", "a", 7}, {"[a]: <b c>", "a", 10}, {"[a]:<>", "a", 6}, {"[a]: <> ", "a", 7}, {`[a]: <\>>`, "a", 9},
		{"[a]: b \"t\"", "a", 10}, {"[a]: b\t't'", "a", 10}, {"[a]: b  (t)  ", "a", 11}, {"[a]:<b> \"t\"", "a", 11}, {"[a]: b \"\"", "a", 9}, {"[a]: b \"t u\" \t", "a", 12}, {`[a]: b "t\"u"`, "a", 13}, {"[a]: b (t \"u\")", "a", 14},
		// What looks like a title may be the destination.
		{"[a]: \"t\"", "a", 8}, {"[a]: 't'", "a", 8}, {"[a]: (t)", "a", 8}, {"[a]: \"b \"t\"", "a", 11},
		{"[a]::", "a", 5}, {"[a]::b", "a", 6}, {"[a]: [b]: c", "", 0}, {"[a]: [b]:", "a", 9}, {"[a]: b>c", "a", 8}, {`[a]: \`, "a", 6},
		{"[a]: \u00e9", "a", 7}, {"[a]: \xff \"\xfe\"", "a", 10},
	} {
		for _, end := range []string{"", "\n", "\r\n", "\nx", "\r\n  "} {
			holdDef(t, x.line+end, 0, x.name, x.to)
		}
		if x.to == 0 {
			continue
		}
		for _, ahead := range []string{"x", "[", "\\", "    ", "[a]: ", "\x00"} {
			holdDef(t, ahead+x.line, len(ahead), x.name, len(ahead)+x.to)
		}
	}
	long := strings.Repeat("A", api.MaxLabel)
	holdDef(t, "["+long+"]: b", 0, strings.ToLower(long), api.MaxLabel+5)
	holdDef(t, "[a]: "+long+long, 0, "a", 5+2*api.MaxLabel)
}

// P17.3: lines that define none.
func TestNoDef(t *testing.T) {
	for _, line := range []string{
		"", "a", "[", "[a]", "[a] ", "[a]:", "[a]: ", "[a]:\t", "[a] : b", "[a] b", "[a]b: c", "[a", "[a:", "[a: b", "a]: b", " [a]: b", "\\[a]: b",
		"[]: b", "[ ]: b", "[\t]: b", "[[a]]: b", "[a[b]: c", `[a\]: b`, "[" + strings.Repeat("a", api.MaxLabel+1) + "]: b",
		"[a]: <b", "[a]: <b c", "[a]: <b<c>", "[a]: <", "[a]: \x7f", "[a]: \x00", "[a]: \rb", "[a]:\vb", `[a]: <b\>`,
		"[a]: b c", "[a]: b c \"t\"", "[a]: b\x7f", "[a]: b\x00", "[a]: b\rc", "[a]: b\v", "[a]: <b>c", "[a]: <b>\"t\"", "[a]: <b>(t)", "[a]: <b><c>", "[a]: <b>\x00 \"t\"",
		"[a]: b \"t", "[a]: b \"", "[a]: b t\"", "[a]: b \"t'", "[a]: b 't\"", "[a]: b (t", "[a]: b (t(u))", "[a]: b [t]", "[a]: b <t>", `[a]: b "t\"`,
		"[a]: b \"t\" u", "[a]: b \"t\"u", "[a]: b \"t\" \"u\"", "[a]: b \"t\"\"u\"", "[a]: b \"t\" \x00", "[a]: b 't' (u)", "[a]: b (t))", "[a]: b \"t\" \v",
		"[a]\n: b", "[a]:\nb", "[a]: \n b", "[a\n]: b", "[a]: <b\n>", "[a]: b \"t\nu\"", "[a]:\r\nb", "[a]: b \"t\r\nu\"", "[a\r\n]: b",
	} {
		holdDef(t, line, 0, "", 0)
		if !strings.Contains(line, "\n") {
			holdDef(t, line+"\n", 0, "", 0)
			holdDef(t, line+"\r\n", 0, "", 0)
			holdDef(t, "x"+line, 1, "", 0)
		}
	}
	// From another place on than that of the label.
	line := "> [a]: b"
	for at := range len(line) + 2 {
		if at != 2 {
			holdDef(t, line, at, "", 0)
		}
	}
	holdDef(t, line, 2, "a", len(line))
}
