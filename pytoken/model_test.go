package pytoken_test

import (
	"regexp"
	"strings"

	"indenture/api"
	"indenture/pytoken"
)

// operators are the chapter's, the longer ones ahead.
var operators = strings.Fields("**= //= >>= <<= ... ** // >> << <= >= == != -> += -= *= /= %= &= |= ^= @= := + - * / % @ & | ^ ~ < > ( ) [ ] { } , : . ; =")

// closing are the quotes by what is open.
var closing = [5]string{"", "'''", `"""`, "'", `"`}

// rest are the bytes of a text from within, up to its end, by what is open.
var rest = [5]*regexp.Regexp{
	1: regexp.MustCompile(`(?s)^(?:\\.|[^\\])*?'''`),
	2: regexp.MustCompile(`(?s)^(?:\\.|[^\\])*?"""`),
	3: regexp.MustCompile(`(?s)^(?:\\.|[^\\])*?'`),
	4: regexp.MustCompile(`(?s)^(?:\\.|[^\\])*?"`),
}

var (
	blanks  = regexp.MustCompile(`^[ \t\f\r]`)
	comment = regexp.MustCompile(`(?s)^#.*`)
	opener  = regexp.MustCompile(`^(?:|[rubfRUBF]|[bfBF][rR]|[rR][bfBF])('''|"""|'|")`)
	name    = regexp.MustCompile(`^[A-Za-z_\x{80}-\x{10FFFF}][A-Za-z_\x{80}-\x{10FFFF}0-9]*`)
	number  = regexp.MustCompile(`^(?:[0-9][xXbBoO][A-Za-z0-9_.]*|\.?[0-9](?:[eE][+-]|[A-Za-z0-9_.])*)`)
	joins   = regexp.MustCompile(`(?s)^(?:\\.|[^\\])*\\$`)
)

// ended is a line without its end, and what is behind that.
func ended(line string) string {
	k := strings.IndexByte(line, 10)
	switch {
	case k < 0:
		return line
	case k > 0 && line[k-1] == 13:
		return line[:k-1]
	}
	return line[:k]
}

// read is what Scan tells, by the words alone: patterns are held against what is left of the line, the first one that fits.
func read(line string, at int, mark byte, depth int) pytoken.Out {
	line = ended(line)
	out := pytoken.Out{Mark: mark, Depth: min(max(depth, 0), api.MaxText)}
	if mark > 4 {
		out.Mark = 0
	}
	for at = max(at, 0); at < len(line); {
		kind, n := readOne(line[at:], &out)
		if kind != 0 {
			out.Events = append(out.Events, api.Event{Op: api.OpLeaf, Kind: kind, At: at, To: at + n})
		}
		switch kind {
		case 0, api.PyComment:
		case api.PyJoin:
			out.Join = true
		default:
			out.Some = true
			out.Colon = kind == api.PyOp && line[at:at+n] == ":" && out.Depth == 0
		}
		at += n
	}
	return out
}

// readOne is what stands at the beginning of s: a kind, 0 of a blank, and how many bytes it has.
func readOne(s string, out *pytoken.Out) (uint8, int) {
	if out.Mark != 0 {
		return readText(s, 0, out.Mark, api.PyPart, out)
	}
	if m := opener.FindStringSubmatch(s); m != nil {
		for mark, quotes := range closing {
			if quotes == m[1] {
				return readText(s, len(m[0]), byte(mark), api.PyString, out)
			}
		}
	}
	switch {
	case blanks.MatchString(s):
		return 0, 1
	case comment.MatchString(s):
		return api.PyComment, len(s)
	case s == "\\":
		return api.PyJoin, 1
	case name.MatchString(s):
		return api.PyName, len(name.FindString(s))
	case number.MatchString(s):
		return api.PyNumber, len(number.FindString(s))
	}
	for _, op := range operators {
		if strings.HasPrefix(s, op) {
			return readOp(op, out), len(op)
		}
	}
	return api.KindError, 1
}

// readText is a text, of which n bytes are ahead of what is within.
func readText(s string, n int, mark byte, kind uint8, out *pytoken.Out) (uint8, int) {
	out.Mark = 0
	if own := rest[mark].FindString(s[n:]); own != "" {
		return kind, n + len(own)
	}
	if mark < 3 || joins.MatchString(s[n:]) {
		out.Mark = mark
		return api.PyPart, len(s)
	}
	return api.KindError, len(s)
}

// readOp counts the brackets.
func readOp(op string, out *pytoken.Out) uint8 {
	switch {
	case strings.Contains("([{", op):
		out.Depth = min(out.Depth+1, api.MaxText)
	case strings.Contains(")]}", op) && out.Depth == 0:
		return api.KindError
	case strings.Contains(")]}", op):
		out.Depth--
	}
	return api.PyOp
}
