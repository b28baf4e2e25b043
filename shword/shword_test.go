package shword_test

import (
	"math"
	"slices"
	"strconv"
	"strings"
	"testing"

	"indenture/api"
	"indenture/shword"
)

// told tells pieces as words: "word 0 1 a", with raw and part (not whole) ahead of the text; "op 2 4"; and the mark behind them, if it is not 0.
func told(l []shword.Piece, mark byte) string {
	var all []string
	for _, p := range l {
		place := " " + strconv.Itoa(p.From) + " " + strconv.Itoa(p.To)
		switch p.Kind {
		case api.ShWord:
			x := "word" + place
			if p.Raw {
				x += " raw"
			}
			if !p.Whole {
				x += " part"
			}
			all = append(all, x+" "+p.Text)
			continue
		case api.ShOp:
			place = "op" + place
		case api.ShComment:
			place = "comment" + place
		case api.ShJoin:
			place = "join" + place
		default:
			place = "kind " + strconv.Itoa(int(p.Kind)) + place
		}
		if p.Text != "" || p.Raw || p.Whole {
			place += " with what belongs to words"
		}
		all = append(all, place)
	}
	if mark != 0 {
		all = append(all, "mark "+strconv.Itoa(int(mark)))
	}
	return strings.Join(all, ", ")
}

const (
	apart  = byte('\'')
	within = byte('"')
)

// hold holds what is read of a line from at on.
func hold(t *testing.T, line string, at int, mark byte, want string) {
	t.Helper()
	if l, behind := shword.Read(line, at, mark); told(l, behind) != want {
		t.Errorf("Read(%.80q, %d, %q) tells\n%.300q, not\n%.300q", line, at, mark, told(l, behind), want)
	}
}

// holdBoth holds what is read of a line from its beginning, whether an LF ends it or not.
func holdBoth(t *testing.T, line string, mark byte, want string) {
	t.Helper()
	hold(t, line, 0, mark, want)
	hold(t, line+"\n", 0, mark, want)
}

// holdModel holds what is read against what is by the words alone.
func holdModel(t *testing.T, line string, at int, mark byte) {
	t.Helper()
	l, behind := shword.Read(line, at, mark)
	if want, now := read(line, at, mark); !slices.Equal(l, want) || behind != now {
		t.Fatalf("Read(%q, %d, %q) tells\n%q, not\n%q", line, at, mark, told(l, behind), told(want, now))
	}
}

// P15.1: the chapter's examples.
func TestExamples(t *testing.T) {
	hold(t, "a >b\n", 0, 0, "word 0 1 a, op 2 3, word 3 4 b")
	hold(t, "cat <<-'E F' # x\n", 0, 0, "word 0 3 cat, op 4 7, word 7 12 raw E F, comment 13 16")
	hold(t, "a\\ b \\\n", 0, 0, "word 0 4 raw a b, join 5 7")
	hold(t, "\"a\n", 0, 0, "word 0 3 raw part a\n, mark 34")
	hold(t, "b\" c\n", 0, within, "word 0 2 raw part b, word 3 4 c")
}

// P15.1: ordinary lines.
func TestOrdinaryLines(t *testing.T) {
	holdBoth(t, "", 0, "")
	holdBoth(t, " \t ", 0, "")
	holdBoth(t, "ls -l  /tmp\t*.go", 0, "word 0 2 ls, word 3 5 -l, word 7 11 /tmp, word 12 16 *.go")
	holdBoth(t, "if [ \"$x\" = 'y z' ]; then", 0, "word 0 2 if, word 3 4 [, word 5 9 raw $x, word 10 11 =, word 12 17 raw y z, word 18 19 ], op 19 20, word 21 25 then")
	holdBoth(t, "a|b||c&d&&e;f;;", 0, "word 0 1 a, op 1 2, word 2 3 b, op 3 5, word 5 6 c, op 6 7, word 7 8 d, op 8 10, word 10 11 e, op 11 12, word 12 13 f, op 13 15")
	holdBoth(t, "(a>b 2>&1 <c>>d<>e>|f<&0)", 0, "op 0 1, word 1 2 a, op 2 3, word 3 4 b, word 5 6 2, op 6 8, word 8 9 1, op 10 11, word 11 12 c, op 12 14, word 14 15 d, op 15 17, word 17 18 e, op 18 20, word 20 21 f, op 21 23, word 23 24 0, op 24 25")
	holdBoth(t, "x=$(cat <<A <<-B)", 0, "word 0 3 x=$, op 3 4, word 4 7 cat, op 8 10, word 10 11 A, op 12 15, word 15 16 B, op 16 17")
	holdBoth(t, "\techo a\r", 0, "word 1 5 echo, word 6 8 a\r")
	holdBoth(t, "\xff\x00\u00e9 \v\f", 0, "word 0 4 \xff\x00\u00e9, word 5 7 \v\f")
}

// P15.1: comments: a # that no word has.
func TestComments(t *testing.T) {
	holdBoth(t, "#", 0, "comment 0 1")
	holdBoth(t, "  # a 'b \" \\", 0, "comment 2 12")
	holdBoth(t, "a # b # c \t", 0, "word 0 1 a, comment 2 11")
	holdBoth(t, "a;#b", 0, "word 0 1 a, op 1 2, comment 2 4")
	holdBoth(t, "<<#b", 0, "op 0 2, comment 2 4")
	holdBoth(t, "a#b #", 0, "word 0 3 a#b, comment 4 5")
	holdBoth(t, "''#b", 0, "word 0 4 raw #b")
	holdBoth(t, "\\#b", 0, "word 0 3 raw #b")
	holdBoth(t, "$# '#' \"#\"", 0, "word 0 2 $#, word 3 6 raw #, word 7 10 raw #")
	holdBoth(t, "#\\", 0, "comment 0 2")
	// Behind the end of an open quote a word goes on.
	holdBoth(t, "a'#b", apart, "word 0 4 raw part a#b")
	holdBoth(t, "a' #b", apart, "word 0 2 raw part a, comment 3 5")
	holdBoth(t, "\"#", within, "word 0 2 raw part #")
}

// P15.1: joins: a backslash that is the content's last byte, if the line has an LF.
func TestJoins(t *testing.T) {
	hold(t, "\\\n", 0, 0, "join 0 2")
	hold(t, "  \\\n", 0, 0, "join 2 4")
	hold(t, "a\\\n", 0, 0, "word 0 1 a, join 1 3")
	hold(t, "'a'\\\n", 0, 0, "word 0 3 raw a, join 3 5")
	hold(t, "a &&\\\n", 0, 0, "word 0 1 a, op 2 4, join 4 6")
	hold(t, "b\"\\\n", 0, within, "word 0 2 raw part b, join 2 4")
	hold(t, "a\n", 1, 0, "")
	hold(t, "a \\\n", 2, 0, "join 2 4")
	// One that another backslash took along, and one that took another one along.
	hold(t, "\\\\\n", 0, 0, "word 0 2 raw \\")
	hold(t, "\\\\\\\n", 0, 0, "word 0 2 raw \\, join 2 4")
	hold(t, "\\ \\\n", 0, 0, "word 0 2 raw  , join 2 4")
	// Within quotes, in a comment, ahead of another byte, and without an LF it joins nothing.
	hold(t, "'a\\\n", 0, 0, "word 0 4 raw part a\\\n, mark 39")
	hold(t, "\"a\\\n", 0, 0, "word 0 4 raw part a\\\n, mark 34")
	hold(t, "\\\n", 0, apart, "word 0 2 raw part \\\n, mark 39")
	hold(t, "\\\n", 0, within, "word 0 2 raw part \\\n, mark 34")
	hold(t, "# \\\n", 0, 0, "comment 0 3")
	hold(t, "\\ \n", 0, 0, "word 0 2 raw  ")
	hold(t, "\\\r\n", 0, 0, "word 0 2 raw \r")
	hold(t, "\\", 0, 0, "word 0 1 raw \\")
	hold(t, "a\\", 0, 0, "word 0 2 raw a\\")
	hold(t, "a \\", 0, 0, "word 0 1 a, word 2 3 raw \\")
	hold(t, "b'\\", 0, apart, "word 0 3 raw part b\\")
	hold(t, "\\\\\\", 0, 0, "word 0 3 raw \\\\")
	// At the content's end nothing stands but an LF, which is none of it.
	hold(t, "\\\n", 1, 0, "")
	hold(t, "\\\n", 2, 0, "")
}

// P15.1: words, and what they say.
func TestWords(t *testing.T) {
	for line, want := range map[string]string{
		// Outside quotes a backslash takes any byte along.
		`\a`: "raw a", `\\`: `raw \`, `\ `: "raw  ", "\\\t": "raw \t", `\'`: "raw '", `\"`: `raw "`, `\#`: "raw #", `\;`: "raw ;", `\<\<\-`: "raw <<-", `a\ b`: "raw a b", "\\\xff": "raw \xff", `\$`: "raw $", "\\\x00": "raw \x00", `a\b\\c`: `raw ab\c`, `\&\&`: "raw &&",
		// In ' there are no other signs.
		`''`: "raw ", `'a'`: "raw a", `'a b'`: "raw a b", `'\'`: `raw \`, `'\\'`: `raw \\`, `'"'`: `raw "`, `'a;b # c'`: "raw a;b # c", `'$x'`: "raw $x", `'\"'`: `raw \"`, "'\t<<'": "raw \t<<",
		// In " a backslash takes along one byte, and goes with four of them.
		`""`: "raw ", `"a b"`: "raw a b", `"'"`: "raw '", `"\""`: `raw "`, `"\\"`: `raw \`, `"\$"`: "raw $", "\"\\`\"": "raw `", `"\a"`: `raw \a`, `"\'"`: `raw \'`, `"\ "`: `raw \ `, `"\\\""`: `raw \"`, `"\\\\"`: `raw \\`, `"\\a"`: `raw \a`, "\"a\\\nb\"": "raw a\\\nb", "\"\\\xff\"": "raw \\\xff", `"\#;"`: `raw \#;`, `"\\\$"`: `raw \$`,
		// What stands side by side is one word.
		`a'b'"c"d`: "raw abcd", `''""`: "raw ", `'a'\''b'`: "raw a'b", `"a"\"'"'`: `raw a""`, `a''b`: "raw ab", `x='y z'`: "raw x=y z",
		// Without any of these a word says itself.
		`a`: "a", `a-b=c`: "a-b=c", `$x`: "$x", "`a`": "`a`", `a#`: "a#", `{`: "{", `!`: "!", "a\rb": "a\rb", "a\u00a0b": "a\u00a0b", `a/*?[b]~`: "a/*?[b]~", "\v": "\v",
	} {
		to := strconv.Itoa(len(line))
		holdBoth(t, line, 0, "word 0 "+to+" "+want)
		// Blanks, operators, and what else stands around it, are none of it.
		one := strconv.Itoa(len(line) + 1)
		for _, behind := range []string{" ", "\t"} {
			hold(t, " "+line+behind, 0, 0, "word 1 "+one+" "+want)
		}
		hold(t, ";"+line+"|\n", 0, 0, "op 0 1, word 1 "+one+" "+want+", op "+one+" "+strconv.Itoa(len(line)+2))
		hold(t, "("+line+")", 0, 0, "op 0 1, word 1 "+one+" "+want+", op "+one+" "+strconv.Itoa(len(line)+2))
		hold(t, "\t"+line+"\\\n", 0, 0, "word 1 "+one+" "+want+", join "+one+" "+strconv.Itoa(len(line)+3))
	}
}

// P15.1: quotes that are open at the line's end, and at the place where the reading begins.
func TestOpenQuotes(t *testing.T) {
	for _, x := range []struct {
		line string
		mark byte
		want string
	}{
		{"'", 0, "word 0 1 raw part , mark 39"},
		{"\"", 0, "word 0 1 raw part , mark 34"},
		{"'\n", 0, "word 0 2 raw part \n, mark 39"},
		{"'a \"b\n", 0, "word 0 6 raw part a \"b\n, mark 39"},
		{"\"a 'b # ;\n", 0, "word 0 10 raw part a 'b # ;\n, mark 34"},
		{"a'b", 0, "word 0 3 raw part ab, mark 39"},
		{"a'b'\"c\n", 0, "word 0 7 raw part abc\n, mark 34"},
		{"\"\\\"\n", 0, "word 0 4 raw part \"\n, mark 34"},
		{"\"\\\\\"\n", 0, "word 0 4 raw \\"},
		{"\"\\", 0, "word 0 2 raw part \\, mark 34"},
		{"\"\\\\", 0, "word 0 3 raw part \\, mark 34"},
		{"\"\\a", 0, "word 0 3 raw part \\a, mark 34"},
		{"a b 'c\n", 0, "word 0 1 a, word 2 3 b, word 4 7 raw part c\n, mark 39"},
		{"<<'a", 0, "op 0 2, word 2 4 raw part a, mark 39"},
		// A word goes on, even if it has no byte, or nothing but the LF.
		{"", apart, "word 0 0 raw part , mark 39"},
		{"", within, "word 0 0 raw part , mark 34"},
		{"\n", apart, "word 0 1 raw part \n, mark 39"},
		{"\n", within, "word 0 1 raw part \n, mark 34"},
		{"a b\n", apart, "word 0 4 raw part a b\n, mark 39"},
		{" # a;", within, "word 0 5 raw part  # a;, mark 34"},
		// It ends in the line.
		{"'", apart, "word 0 1 raw part "},
		{"\"\n", within, "word 0 1 raw part "},
		{"a\\' b\n", apart, "word 0 3 raw part a\\, word 4 5 b"},
		{"a\\\" b\n", within, "word 0 6 raw part a\" b\n, mark 34"},
		{"a\\\\\" b\n", within, "word 0 4 raw part a\\, word 5 6 b"},
		{"a\"b' c", within, "word 0 6 raw part ab c, mark 39"},
		{"a\"b'c'd>e", within, "word 0 7 raw part abcd, op 7 8, word 8 9 e"},
		{"\"<<b", within, "word 0 1 raw part , op 1 3, word 3 4 b"},
		{"''a", apart, "word 0 3 raw part a, mark 39"},
		{"'''a", apart, "word 0 4 raw part a"},
		// The other sign is a byte like others.
		{"a\"b", apart, "word 0 3 raw part a\"b, mark 39"},
		{"a'b", within, "word 0 3 raw part a'b, mark 34"},
	} {
		hold(t, x.line, 0, x.mark, x.want)
	}
	// A quote that is open goes on in as many lines as it takes.
	mark := byte(0)
	for _, x := range []struct{ line, want string }{
		{"echo \"a\n", "word 0 4 echo, word 5 8 raw part a\n, mark 34"},
		{"\n", "word 0 1 raw part \n, mark 34"},
		{"# 'b\n", "word 0 5 raw part # 'b\n, mark 34"},
		{"c\" 'd\n", "word 0 2 raw part c, word 3 6 raw part d\n, mark 39"},
		{"e\\'f g\n", "word 0 4 raw part e\\f, word 5 6 g"},
	} {
		hold(t, x.line, 0, mark, x.want)
		_, mark = shword.Read(x.line, 0, mark)
	}
}

// P15.1: reading from a place on, which looks at nothing ahead of it.
func TestPlaces(t *testing.T) {
	line := "a'b \"c # d<<e\\\n"
	hold(t, line, 0, 0, "word 0 15 raw part ab \"c # d<<e\\\n, mark 39")
	hold(t, line, 1, 0, "word 1 15 raw part b \"c # d<<e\\\n, mark 39")
	hold(t, line, 2, 0, "word 2 3 b, word 4 15 raw part c # d<<e\\\n, mark 34")
	hold(t, line, 3, 0, "word 4 15 raw part c # d<<e\\\n, mark 34")
	hold(t, line, 5, 0, "word 5 6 c, comment 7 14")
	hold(t, line, 9, 0, "word 9 10 d, op 10 12, word 12 13 e, join 13 15")
	hold(t, line, 11, 0, "op 11 12, word 12 13 e, join 13 15")
	hold(t, line, 13, 0, "join 13 15")
	hold(t, line, 14, 0, "")
	hold(t, line, 2, within, "word 2 6 raw part b c, comment 7 14")
	hold(t, line, 14, within, "word 14 15 raw part \n, mark 34")
	hold(t, "ab", 2, apart, "word 2 2 raw part , mark 39")
	hold(t, "a#b", 1, 0, "comment 1 3")
	hold(t, "a\\ b", 2, 0, "word 3 4 b")
	// No places, whatever is open.
	for _, line := range []string{"", "\n", "a", "a\n", "'a\\\n"} {
		own := len(strings.TrimSuffix(line, "\n"))
		for _, at := range []int{math.MinInt, -1 << 40, -1, own + 1, own + 2, 1 << 40, math.MaxInt} {
			for _, mark := range []byte{0, apart, within, 'a'} {
				hold(t, line, at, mark, "")
			}
		}
	}
}

// P15.1: a mark that is no sign counts as 0.
func TestMarksThatAreNone(t *testing.T) {
	for n := range 256 {
		mark := byte(n)
		if mark == apart || mark == within {
			continue
		}
		hold(t, "", 0, mark, "")
		hold(t, "\n", 0, mark, "")
		hold(t, "a' b", 0, mark, "word 0 4 raw part a b, mark 39")
		hold(t, "a \" b'\n", 0, mark, "word 0 1 a, word 2 7 raw part  b'\n, mark 34")
		hold(t, "a `b\n", 0, mark, "word 0 1 a, word 2 4 `b")
	}
}

// P15.1: an LF that does not end the line is a byte like others.
func TestOtherLFs(t *testing.T) {
	hold(t, "a\nb", 0, 0, "word 0 3 a\nb")
	hold(t, "a\n\n", 0, 0, "word 0 2 a\n")
	hold(t, "\n\n", 0, 0, "word 0 1 \n")
	hold(t, "\nb # c\nd\n", 0, 0, "word 0 2 \nb, comment 3 8")
	hold(t, "\\\nb", 0, 0, "word 0 3 raw \nb")
	hold(t, "a\\\n\n", 0, 0, "word 0 3 raw a\n")
	hold(t, "'a\nb' c", 0, 0, "word 0 5 raw a\nb, word 6 7 c")
	hold(t, "\"a\\\nb\"", 0, 0, "word 0 6 raw a\\\nb")
	hold(t, "\"\n\n", 0, 0, "word 0 3 raw part \n\n, mark 34")
	hold(t, "a\n#b", 0, 0, "word 0 4 a\n#b")
	hold(t, "\n", 1, 0, "")
	hold(t, "a\nb", 2, 0, "word 2 3 b")
}

// ops are all operators.
var ops = []string{"<<-", "&&", "||", ";;", "<<", ">>", "<&", ">&", "<>", ">|", "&", "|", ";", "<", ">", "(", ")"}

// longest is how many bytes the longest operator has with which s begins.
func longest(s string) int {
	n := 0
	for _, op := range ops {
		if strings.HasPrefix(s, op) {
			n = max(n, len(op))
		}
	}
	return n
}

// P15.2: each operator, whatever stands around it.
func TestOp(t *testing.T) {
	for _, op := range ops {
		for _, behind := range []string{"", " ", "a", "\n", "#", "'", "\\", "\x00", "=", "-a"} {
			for _, ahead := range []string{"", " ", "a", "'", "#", "\\", "\n"} {
				line := ahead + op + behind
				if n, want := shword.Op(line, len(ahead)), longest(op+behind); n != want {
					t.Errorf("Op(%q, %d) = %d, not %d", line, len(ahead), n, want)
				}
			}
		}
		for _, at := range []int{math.MinInt, -1 << 40, -1, len(op), len(op) + 1, 1 << 40, math.MaxInt} {
			if n := shword.Op(op, at); n != 0 {
				t.Errorf("Op(%q, %d) = %d", op, at, n)
			}
		}
	}
	if n := shword.Op("", 0); n != 0 {
		t.Errorf("Op of nothing is %d", n)
	}
}

// P15.2: all lines of few bytes, at all places: the longest operator, and none where none stands.
func TestOpIsTheLongest(t *testing.T) {
	for _, line := range lines("&|;<>()-a\n", 4) {
		for at := -1; at <= len(line)+1; at++ {
			want := 0
			if at >= 0 && at < len(line) {
				want = longest(line[at:])
			}
			if n := shword.Op(line, at); n != want {
				t.Errorf("Op(%q, %d) = %d, not %d", line, at, n, want)
			}
		}
	}
	for c := range 256 {
		one := string([]byte{byte(c)})
		for _, line := range []string{one, one + one, one + "-", "<" + one, ">" + one, "<<" + one, "&" + one, ";" + one} {
			if n := shword.Op(line, 0); n != longest(line) {
				t.Errorf("Op(%q, 0) = %d, not %d", line, n, longest(line))
			}
		}
	}
}

// P15.1, P15.2: operators that stand side by side: each time the longest one.
func TestOpsSideBySide(t *testing.T) {
	holdBoth(t, "<<<-", 0, "op 0 2, op 2 3, word 3 4 -")
	holdBoth(t, "<<--", 0, "op 0 3, word 3 4 -")
	holdBoth(t, "<<<<-a", 0, "op 0 2, op 2 5, word 5 6 a")
	holdBoth(t, "&&&", 0, "op 0 2, op 2 3")
	holdBoth(t, ";;;;;", 0, "op 0 2, op 2 4, op 4 5")
	holdBoth(t, "|&", 0, "op 0 1, op 1 2")
	holdBoth(t, ">||", 0, "op 0 2, op 2 3")
	holdBoth(t, "<>>", 0, "op 0 2, op 2 3")
	holdBoth(t, "(())", 0, "op 0 1, op 1 2, op 2 3, op 3 4")
	holdBoth(t, "< <-", 0, "op 0 1, op 2 3, word 3 4 -")
	holdBoth(t, "&>&", 0, "op 0 1, op 1 3")
	holdBoth(t, "a-<<-b", 0, "word 0 2 a-, op 2 5, word 5 6 b")
}

// P15.1: what is told is new memory each time, spare room too; what is written there shows in no other answer.
func TestAnswersAreNew(t *testing.T) {
	for _, line := range []string{"", "a", "a 'b c' <<-d # e\n", strings.Repeat("a;", 50), "'a\n"} {
		ask := func() []shword.Piece {
			l, _ := shword.Read(line, 0, within)
			return l
		}
		all := [][]shword.Piece{ask(), ask(), ask()}
		want := slices.Clone(all[0])
		for i, l := range all {
			spare := l[:cap(l)]
			for k := range spare {
				spare[k] = shword.Piece{Kind: 99, From: -1, To: -1, Text: "x"}
			}
			for _, other := range append(all[i+1:], ask()) {
				if !slices.Equal(other, want) {
					t.Fatalf("what is written to an answer shows in another one: %v, not %v", other, want)
				}
			}
		}
	}
}
