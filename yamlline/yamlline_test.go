package yamlline_test

import (
	"math"
	"strings"
	"testing"

	"indenture/api"
	"indenture/yamlline"
)

// none is what is told of a place at which nothing stands.
var none = yamlline.Part{}

// of is a part of which no more is told than its end.
func of(kind uint8, to int) yamlline.Part {
	return yamlline.Part{Kind: kind, To: to}
}

func marked(to int) yamlline.Part     { return of(api.YamlMark, to) }
func comment(to int) yamlline.Part    { return of(api.YamlComment, to) }
func dashed(to int) yamlline.Part     { return of(api.YamlDash, to) }
func quotedTo(to int) yamlline.Part   { return of(api.YamlQuoted, to) }
func plainTo(to int) yamlline.Part    { return of(api.YamlPlain, to) }
func failed(to int) yamlline.Part     { return of(api.KindError, to) }
func key(to, colon int) yamlline.Part { return yamlline.Part{Kind: api.YamlKey, To: to, Colon: colon} }
func signed(to, digit int) yamlline.Part {
	return yamlline.Part{Kind: api.YamlHead, To: to, Count: digit}
}

// ends are what may stand behind the bytes of a line: its end, or nothing, and what is behind its end.
var ends = []string{"", "\n", "\r\n", "\n\n", "\nx: y", "\r\n'\"#: ", "\n \t", "\n\r", "\r\n\r\n"}

// out are numbers that are no place of any line, as far out as an int goes.
var out = []int{math.MinInt, math.MinInt + 1, -1 << 40, -api.MaxText, -2, -1, 1 << 20, 1 << 40, math.MaxInt - 1, math.MaxInt}

// read1 is what is to be read at a place of a line.
type read1 struct {
	line string
	at   int
	want yamlline.Part
}

// hold holds what Read tells, whatever stands behind the line's own bytes.
func hold(t *testing.T, list ...read1) {
	t.Helper()
	for _, x := range list {
		for _, end := range ends {
			if end != "" && end[0] == '\n' && strings.HasSuffix(x.line, "\r") {
				continue
			}
			if p := yamlline.Read(x.line+end, x.at); p != x.want {
				t.Errorf("Read(%q, %d) = %v, not %v", x.line+end, x.at, p, x.want)
				break
			}
		}
	}
}

// first holds what Read tells of each line at its beginning; and, too, if other bytes stand ahead of it.
func first(t *testing.T, list map[string]yamlline.Part) {
	t.Helper()
	for line, want := range list {
		hold(t, read1{line, 0, want})
		for _, ahead := range []string{" ", "\t", "a", "# ", "- ", "k: ", "'", `"`, "\\", ": ", "\xff\r\x00"} {
			moved := want
			moved.To += len(ahead)
			if want.Kind == api.YamlKey {
				moved.Colon += len(ahead)
			}
			hold(t, read1{ahead + line, len(ahead), moved})
		}
	}
}

// P13.2: the chapter's examples.
func TestExamples(t *testing.T) {
	hold(t,
		read1{"- a", 0, dashed(1)}, read1{"-a", 0, plainTo(2)}, read1{"-", 0, dashed(1)},
		read1{"a b : c", 0, key(3, 4)}, read1{"a:b", 0, plainTo(3)}, read1{"a:", 0, key(1, 1)}, read1{": a", 0, failed(3)},
		read1{"'it''s' # x", 0, quotedTo(7)}, read1{`"a\"b":`, 0, key(6, 6)}, read1{"'a", 0, failed(2)}, read1{"'a'b", 0, failed(4)},
		read1{"|2-", 0, signed(3, 2)}, read1{">", 0, signed(1, 0)}, read1{"| x", 0, plainTo(3)}, read1{"|-+", 0, plainTo(3)},
		read1{"a # b", 0, plainTo(1)}, read1{"a#b", 0, plainTo(3)}, read1{"# b", 0, comment(3)}, read1{"--- a", 0, marked(3)}, read1{"---a", 0, plainTo(4)},
	)
}

// P13.2: ordinary lines, read part by part.
func TestOrdinaryLines(t *testing.T) {
	for _, x := range []struct {
		line string
		want []yamlline.Part
	}{
		{"--- # a document\r\n", []yamlline.Part{marked(3), comment(16)}},
		{"name: indenture\n", []yamlline.Part{key(4, 4), plainTo(15)}},
		{"  - \"a b\" : 'c d'  # e\n", []yamlline.Part{dashed(3), key(9, 10), quotedTo(17), comment(22)}},
		{"- - -1\n", []yamlline.Part{dashed(1), dashed(3), plainTo(6)}},
		{"text: >-2 # folded\n", []yamlline.Part{key(4, 4), signed(9, 2), comment(18)}},
		{"url: http://a.b:80/#c d\t#e\n", []yamlline.Part{key(3, 3), plainTo(23), comment(26)}},
		{"a: b: c", []yamlline.Part{key(1, 1), key(4, 4), plainTo(7)}},
		{"...\n", []yamlline.Part{marked(3)}},
		{"x: : y z  \n", []yamlline.Part{key(1, 1), failed(8)}},
	} {
		at := yamlline.Skip(x.line, 0)
		for _, want := range x.want {
			p := yamlline.Read(x.line, at)
			if p != want {
				t.Fatalf("Read(%q, %d) = %v, not %v", x.line, at, p, want)
			}
			at = p.To
			if p.Kind == api.YamlKey {
				at = p.Colon + 1
			}
			at = yamlline.Skip(x.line, at)
		}
		if at != len(ended(x.line)) {
			t.Errorf("%q is read up to %d", x.line, at)
		}
	}
}

// P13.1: places of all kinds, in lines that end in all ways.
func TestSkip(t *testing.T) {
	for _, x := range []struct{ line, places string }{
		{"", "0"},
		{"x", "01"},
		{" ", "11"},
		{" \tx \t", "222555"},
		{"\t \t ", "44444"},
		{"a  b", "03334"},
		{"\f \v\xa0\x00", "022345"},
		{"  \r", "2223"}, // without an LF a byte 13 is of the line
		{"\r \r", "0223"},
		{" #\t:", "11334"},
	} {
		for _, end := range ends {
			if end != "" && end[0] == '\n' && strings.HasSuffix(x.line, "\r") {
				continue
			}
			line := x.line + end
			for at, want := range x.places {
				if k := yamlline.Skip(line, at); k != int(want-'0') {
					t.Errorf("Skip(%q, %d) = %d, not %c", line, at, k, want)
				}
			}
			// Behind the line's end: between 13 and LF, at what stands behind the LF, and at no place at all.
			far := out
			for at := len(x.line) + 1; at < len(line)+3; at++ {
				far = append(far, at)
			}
			for _, at := range far {
				if k := yamlline.Skip(line, at); k != len(x.line) {
					t.Errorf("Skip(%q, %d) = %d, not %d", line, at, k, len(x.line))
				}
			}
		}
	}
}

// P13.2: nothing is read at no place, at the line's end, within and behind it, and where a blank stands.
func TestNothing(t *testing.T) {
	for _, own := range []string{"", "a", "# a", " a", "a ", "\ta:\t", "'a'", "- ", "|", "---", ": "} {
		for _, end := range ends {
			line := own + end
			var places []int
			for at := -3; at < len(line)+3; at++ {
				if at < 0 || at >= len(own) || own[at] == ' ' || own[at] == '\t' {
					places = append(places, at)
				}
			}
			for _, at := range append(places, out...) {
				if p := yamlline.Read(line, at); p != none {
					t.Errorf("Read(%q, %d) = %v", line, at, p)
				}
			}
		}
	}
}

// P13.1, P13.2: a line that ends in 13 alone, or in more of them, has these; no other byte ends one.
func TestLoneReturns(t *testing.T) {
	hold(t,
		read1{"a\r", 0, plainTo(2)}, read1{"a\r ", 0, plainTo(2)}, read1{"a:\r", 0, plainTo(3)}, read1{"a\r: b", 0, key(2, 2)},
		read1{"\r", 0, plainTo(1)}, read1{"-\r", 0, plainTo(2)}, read1{"---\r", 0, plainTo(4)}, read1{"|\r", 0, plainTo(2)},
		read1{"#\r", 0, comment(2)}, read1{"'a'\r", 0, failed(4)}, read1{"'a'\r:", 0, failed(5)}, read1{"'\r'", 0, quotedTo(3)},
		read1{"a\r#b", 0, plainTo(4)}, read1{"a\v\f\x85", 0, plainTo(4)},
	)
	for line, want := range map[string]yamlline.Part{
		"a\r\r\n": plainTo(2), "a:\r\r\n": plainTo(3), "a:\r\n\r\n": key(1, 1), "\"a\\\r\n\"": failed(3), "-\r\r\n": plainTo(2), "'a'\r\n'": quotedTo(3), "'\n'": failed(1),
	} {
		if p := yamlline.Read(line, 0); p != want {
			t.Errorf("Read(%q, 0) = %v, not %v", line, p, want)
		}
	}
}

// P13.2, 1: the marks between documents stand at 0 alone, and ahead of a parted place.
func TestMarks(t *testing.T) {
	for _, own := range []string{"---", "..."} {
		hold(t,
			read1{own, 0, marked(3)}, read1{own + " ", 0, marked(3)}, read1{own + "\t", 0, marked(3)}, read1{own + " a: b", 0, marked(3)},
			read1{own + "\t# c", 0, marked(3)}, read1{own + " :", 0, marked(3)}, read1{own + " ---", 0, marked(3)},
			read1{own + "a", 0, plainTo(4)}, read1{own + "#", 0, plainTo(4)}, read1{own + "\f", 0, plainTo(4)}, read1{own + own[:1], 0, plainTo(4)},
			read1{own + ":", 0, key(3, 3)}, read1{own + "a : b", 0, key(4, 5)},
			read1{" " + own, 1, plainTo(4)}, read1{"  " + own + " a", 2, plainTo(7)}, read1{"a" + own, 0, plainTo(4)}, read1{"a" + own + " b", 1, plainTo(6)},
			read1{own + " " + own, 4, plainTo(7)}, read1{own[:2], 0, plainTo(2)}, read1{own[:2] + " a", 0, plainTo(4)},
		)
	}
	hold(t, read1{"--.", 0, plainTo(3)}, read1{"..-", 0, plainTo(3)}, read1{".", 0, plainTo(1)}, read1{"---", 1, plainTo(3)}, read1{"---", 2, dashed(3)}, read1{"--- ", 2, dashed(3)})
}

// P13.2, 2: a comment goes up to the line's end, whatever it has.
func TestComments(t *testing.T) {
	first(t, map[string]yamlline.Part{
		"#": comment(1), "##": comment(2), "# ": comment(2), "#a: b": comment(5), "# '\t": comment(4), "# \r \t": comment(5), "#\xff\x00": comment(3), "# # #": comment(5),
	})
}

// P13.2, 3: a dash stands ahead of a parted place.
func TestDashes(t *testing.T) {
	first(t, map[string]yamlline.Part{
		"-": dashed(1), "- ": dashed(1), "-\t": dashed(1), "-  a": dashed(1), "-\ta: b": dashed(1), "- - a": dashed(1), "- # a": dashed(1), "- :": dashed(1),
		"-a": plainTo(2), "-1 ": plainTo(2), "--": plainTo(2), "-#": plainTo(2), "-:": key(1, 1), "-a: b": key(2, 2), "-'": plainTo(2), "-\f": plainTo(2), "-\x80": plainTo(2), "-- a": plainTo(4),
	})
}

// P13.2, 4: the sign of a block scalar, and what goes on as a plain scalar.
func TestHeads(t *testing.T) {
	for _, c := range []string{"|", ">"} {
		first(t, map[string]yamlline.Part{
			c: signed(1, 0), c + "1": signed(2, 1), c + "9": signed(2, 9), c + "5": signed(2, 5),
			c + "+": signed(2, 0), c + "-": signed(2, 0), c + "1+": signed(3, 1), c + "9-": signed(3, 9), c + "-2": signed(3, 2), c + "+8": signed(3, 8),
			c + " ": signed(1, 0), c + "\t \t": signed(1, 0), c + "3 ": signed(2, 3), c + "- ": signed(2, 0), c + "4+\t": signed(3, 4), c + "+4  ": signed(3, 4),
			c + " #": signed(1, 0), c + "\t# a: b": signed(1, 0), c + "2 #a": signed(2, 2), c + "-  #": signed(2, 0), c + "6-\t#\t": signed(3, 6), c + " #x ": signed(1, 0),
			// A # that no blank stands ahead of, and other bytes behind.
			c + "#": plainTo(2), c + "1#": plainTo(3), c + "-#a": plainTo(4), c + "2+#": plainTo(4), c + "# #": plainTo(2),
			c + "a": plainTo(2), c + " x": plainTo(3), c + "1 x ": plainTo(4), c + "- -": plainTo(4), c + "1-\tx # y": plainTo(5), c + c: plainTo(2), c + " " + c: plainTo(3),
			c + "'": plainTo(2), c + "\r": plainTo(2), c + " \f": plainTo(3), c + "\x80": plainTo(2),
			// What is no digit, too many of them, and too many signs.
			c + "0": plainTo(2), c + "0-": plainTo(3), c + "-0": plainTo(3), c + "10": plainTo(3), c + "12": plainTo(3), c + "1-2": plainTo(4), c + "33 #": plainTo(3),
			c + "++": plainTo(3), c + "--": plainTo(3), c + "+-": plainTo(3), c + "-+": plainTo(3), c + "-1+": plainTo(4), c + "1--": plainTo(4), c + ":a": plainTo(3), c + "/": plainTo(2),
			c + " 1": plainTo(3), c + " -": plainTo(3), c + "1 -": plainTo(4), c + "- 1 ": plainTo(4),
			// As a plain scalar it may be a key.
			c + ":": key(1, 1), c + "1: a": key(2, 2), c + "- :": key(2, 3), c + " a: b": key(3, 3), c + " : ": key(1, 2), c + "1-2 :\t": key(4, 5),
		})
	}
}

// P13.2, 5: what both kinds of quotes have in common.
func TestQuotes(t *testing.T) {
	for _, q := range []string{"'", `"`} {
		own := q + "a b" + q
		first(t, map[string]yamlline.Part{
			q + q: quotedTo(2), own: quotedTo(5), own + " \t": quotedTo(5), q + " \t" + q: quotedTo(4), q + ": # - |" + q: quotedTo(9), q + "\x80\xff\x00\r" + q: quotedTo(6),
			// A comment behind it, and a # that is none.
			own + " #": quotedTo(5), own + "\t# c ": quotedTo(5), q + q + " # '\"": quotedTo(2), own + "#": failed(6), own + "# c ": failed(8), q + q + "#": failed(3),
			// A key: its colon right behind, or behind blanks.
			own + ":": key(5, 5), own + ": ": key(5, 5), own + ":\tx": key(5, 5), own + " :": key(5, 6), own + "\t  : x": key(5, 8), q + q + ":": key(2, 2), q + q + " : '": key(2, 3), own + ": # c": key(5, 5), own + ": : x": key(5, 5),
			// A colon that is not parted, and other bytes.
			own + ":x": failed(7), own + "::": failed(7), own + ":# ": failed(7), own + " :x ": failed(8), own + ":\r": failed(7), own + " :" + q + "\t": failed(8),
			own + "x": failed(6), own + " x": failed(7), own + " x: y \t": failed(10), own + ",": failed(6), own + " -": failed(7), own + "\r": failed(6), own + "\x80": failed(6), q + q + "\\": failed(3), own + " x #y": failed(10), own + ";:": failed(7),
			// What does not end.
			q: failed(1), q + " \t": failed(1), q + "a": failed(2), q + "a: b # c ": failed(9), q + "\xff": failed(2), q + " a  ": failed(3),
		})
	}
	first(t, map[string]yamlline.Part{
		`'"'`: quotedTo(3), `"'"`: quotedTo(3), `'"`: failed(2), `"'`: failed(2), `'a":`: failed(4), `"a' # b`: failed(7),
		`'' ''`: failed(5), `"" ""`: failed(5), `"a""b"`: failed(6), `""""`: failed(4), `"""`: failed(3),
	})
}

// P13.2, 5: two ' one behind the other end nothing; there a backslash is a byte like others.
func TestDoubledQuotes(t *testing.T) {
	first(t, map[string]yamlline.Part{
		"'''": failed(3), "''''": quotedTo(4), "'''''": failed(5), "''''''": quotedTo(6), "'a''": failed(4), "'a'''": quotedTo(5), "'''a'": quotedTo(5), "'a''b'": quotedTo(6), "'a''''b'": quotedTo(8),
		"'a'''b'": failed(7), "'a'''b": failed(6), "'''':": key(4, 4), "'a'': b": failed(7), "'a''' : b": key(5, 6), "'a''# b'": quotedTo(8), "'' '": failed(4), "'a' 'b'": failed(7),
		`'\'`: quotedTo(3), `'a\':`: key(4, 4), `'a\'b'`: failed(6), `'\\'`: quotedTo(4), `'\`: failed(2), `'\'''`: quotedTo(5), `'\''`: failed(4),
	})
}

// P13.2, 5: in " a backslash takes the byte behind it along, whatever it is, but nothing of the line's end.
func TestBackslashes(t *testing.T) {
	first(t, map[string]yamlline.Part{
		`"\""`: quotedTo(4), `"\"`: failed(3), `"\\"`: quotedTo(4), `"\\\"`: failed(5), `"\\\""`: quotedTo(6), `"\\\\"`: quotedTo(6), `"a\"b"`: quotedTo(6), `"a\"b" # c`: quotedTo(6),
		`"\`: failed(2), `"\\`: failed(3), `"a\`: failed(3), `"a" \`: failed(5), `"\a\ \:\#"`: quotedTo(10), `"\": "`: quotedTo(6), `"\\": "`: key(4, 4), `"a\\" : `: key(5, 6), `"\'"`: quotedTo(4),
		"\"\\\xff\"": quotedTo(4), "\"\\\r\"": quotedTo(4), `"a\" `: failed(4), `"\  `: failed(2),
	})
}

// P13.2, 6: a plain scalar, up to a comment or the line's end.
func TestPlain(t *testing.T) {
	first(t, map[string]yamlline.Part{
		"a": plainTo(1), "a b": plainTo(3), "a  \t": plainTo(1), "a\tb \t c\t ": plainTo(7),
		// A colon that is not parted is a byte like others.
		"a:b": plainTo(3), "a::b": plainTo(4), ":a": plainTo(2), "::a": plainTo(3), "a :b": plainTo(4), "a:#": plainTo(3), "a:b:c ": plainTo(5), "a:\r": plainTo(3), "http://a": plainTo(8), ":'": plainTo(2),
		// So is a # behind no blank.
		"a#": plainTo(2), "a#b": plainTo(3), "a##": plainTo(3), "a:# b": plainTo(5), "a #": plainTo(1), "a\t#": plainTo(1), "a # b": plainTo(1), "a b  # c": plainTo(3), "a# #b": plainTo(2), "a #: b": plainTo(1), "a # b: c": plainTo(1), "a\r#": plainTo(3), "a\f#b": plainTo(4),
		// What begins a flow collection, a tag and the like elsewhere.
		"[a, b]": plainTo(6), "{a: b}": key(2, 2), "{a:b}": plainTo(5), "&a b": plainTo(4), "*a": plainTo(2), "!t x": plainTo(4), "%Y 1": plainTo(4), "@a": plainTo(2), "`a`": plainTo(3), "[": plainTo(1), "? a": plainTo(3), ", a": plainTo(3), "]": plainTo(1), "}": plainTo(1),
		// Quotes and signs that do not begin it.
		"a'b": plainTo(3), `a"b c"`: plainTo(6), "a |": plainTo(3), "a - b": plainTo(5), "a -": plainTo(3), "\\": plainTo(1), `\"`: plainTo(2),
		"\xff\xfe": plainTo(2), "\xc3\xa9 \x80": plainTo(4), "\x00": plainTo(1), "\v": plainTo(1), "\r a": plainTo(3), "\xc2\xa0 ": plainTo(2),
	})
}

// P13.2, 6: a key, up to the blanks ahead of its colon; a colon at the first byte makes none.
func TestKeys(t *testing.T) {
	first(t, map[string]yamlline.Part{
		"a:": key(1, 1), "a: ": key(1, 1), "a:\t": key(1, 1), "a: b": key(1, 1), "a :": key(1, 2), "a \t : b": key(1, 4), "a b:": key(3, 3), "a b \t: c": key(3, 5), "a:b: c": key(3, 3), "a::": key(2, 2), "a : : b": key(1, 2), "a: b: c": key(1, 1),
		"a#b: c": key(3, 3), "a: # b": key(1, 1), "a :# : b": key(4, 5), "a' b': c": key(5, 5), "\xff:": key(1, 1), "\xc3\xa9 : b": key(2, 3), "[: a": key(1, 1), "a\r:": key(2, 2), "1: '": key(1, 1), "a # : b": plainTo(1),
		"::": key(1, 1), ":: a": key(1, 1), ":a: b": key(2, 2), ":a :": key(2, 3),
		":": failed(1), ": ": failed(1), ":\t": failed(1), ": a": failed(3), ": a: b \t": failed(6), ": # a ": failed(5), ":  '": failed(4), ": :": failed(3),
	})
}
