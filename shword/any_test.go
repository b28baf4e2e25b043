package shword_test

import (
	"strings"
	"testing"

	"indenture/api"
	"indenture/shword"
)

// parts are what lines are made of.
var parts = []string{
	" ", " ", "\t", "'", "'", `"`, `"`, `\`, `\`, `\\`, `\"`, `\'`, `\$`, "#", " #", "<<", "<<-", "&&", "|", ";;", ">", "<", "&", "(", ")", "a", "b c", "-", "$x", "`", "\r", "\n", "\x00", "\x80", "\xff", "\xc3\xa9", "E", "''", `""`,
}

// turn goes on to the next number of a row that looks unordered, and answers one from 0 to n - 1.
func turn(seed *uint64, n int) int {
	*seed = *seed*6364136223846793005 + 1442695040888963407
	return int(*seed >> 33 % uint64(n))
}

// anyMark is what may be open, or no sign.
func anyMark(seed *uint64) byte {
	return [...]byte{0, 0, apart, within, 'a'}[turn(seed, 5)]
}

// anyBytes are at most n bytes, whatever they are, but none of not.
func anyBytes(seed *uint64, n int, not string) string {
	var b strings.Builder
	for range turn(seed, n+1) {
		if c := byte(turn(seed, 256)); strings.IndexByte(not, c) < 0 {
			b.WriteByte(c)
		}
	}
	return b.String()
}

// anyLine is a line of whatever bytes, or of parts that mean something.
func anyLine(seed *uint64) string {
	end := []string{"", "\n", "\n", "\\\n", "\r\n"}[turn(seed, 5)]
	if turn(seed, 5) == 0 {
		return anyBytes(seed, 12, "") + end
	}
	var b strings.Builder
	for range turn(seed, 14) {
		b.WriteString(parts[turn(seed, len(parts))])
	}
	return b.String() + end
}

// lines are all lines of at most n of the bytes of letters.
func lines(letters string, n int) []string {
	all := []string{""}
	for from := 0; n > 0; n-- {
		to := len(all)
		for _, l := range all[from:to] {
			for i := range len(letters) {
				all = append(all, l+letters[i:i+1])
			}
		}
		from = to
	}
	return all
}

// isSign tells whether mark is that of a quote.
func isSign(mark byte) bool { return mark == apart || mark == within }

// holdForm holds that pieces lie one behind the other, in the line; that what lies around them in the content are blanks; and that each has the form of its kind.
func holdForm(t *testing.T, line string, at int, mark byte) {
	t.Helper()
	l, behind := shword.Read(line, at, mark)
	fail := func(why string) {
		t.Helper()
		t.Fatalf("Read(%.300q, %d, %q) tells %.300q: %s", line, at, mark, told(l, behind), why)
	}
	own := strings.TrimSuffix(line, "\n")
	if at < 0 || at > len(own) {
		if len(l) > 0 || behind != 0 {
			fail("no place")
		}
		return
	}
	far := at
	for i, p := range l {
		open := i == 0 && isSign(mark)
		last := i == len(l)-1
		if p.From < far || p.To < p.From || p.To > len(line) || p.To == p.From && !open {
			fail("a piece that has no place, or no bytes")
		}
		if strings.Trim(line[far:p.From], " \t") != "" || open && p.From != at {
			fail("something lies ahead of a piece")
		}
		far = p.To
		if p.Kind != api.ShWord && (p.Text != "" || p.Raw || p.Whole) {
			fail("what belongs to words")
		}
		switch bytes := line[p.From:p.To]; p.Kind {
		case api.ShWord:
			ends := last && behind != 0
			if p.Whole == (open || ends) || p.Raw != (open || strings.ContainsAny(bytes, `'"\`)) {
				fail("raw or whole")
			}
			if len(p.Text) > len(bytes) || !p.Raw && p.Text != bytes || p.To > len(own) != (ends && own != line) {
				fail("a text, or an end, that may not be")
			}
		case api.ShOp:
			if shword.Op(line, p.From) != len(bytes) || longest(bytes) != len(bytes) {
				fail("no operator")
			}
		case api.ShComment:
			if bytes[0] != '#' || p.To != len(own) {
				fail("no comment")
			}
		case api.ShJoin:
			if bytes != "\\\n" || p.To != len(line) {
				fail("no join")
			}
		default:
			fail("no such kind")
		}
	}
	if far < len(own) && strings.Trim(own[far:], " \t") != "" {
		fail("something lies behind the pieces")
	}
	if behind != 0 && (!isSign(behind) || len(l) == 0 || l[len(l)-1].Kind != api.ShWord) {
		fail("a mark that may not be")
	}
}

// moved are pieces k places further on.
func moved(l []shword.Piece, k int) []shword.Piece {
	var all []shword.Piece
	for _, p := range l {
		p.From, p.To = p.From+k, p.To+k
		all = append(all, p)
	}
	return all
}

// holdCuts holds that a line tells the same if it is cut at a blank that stands in no piece, and not behind an LF.
func holdCuts(t *testing.T, line string, mark byte) int {
	t.Helper()
	l, behind := shword.Read(line, 0, mark)
	cuts := 0
	for k := range len(line) {
		if line[k] != ' ' && line[k] != '\t' || k > 0 && line[k-1] == '\n' {
			continue
		}
		in := false
		for _, p := range l {
			in = in || p.From <= k && k < p.To
		}
		if in {
			continue
		}
		first, open := shword.Read(line[:k], 0, mark)
		second, now := shword.Read(line[k:], 0, open)
		if all := append(first, moved(second, k)...); told(all, now) != told(l, behind) || open != 0 {
			t.Fatalf("%q, %q, cut at %d, tells\n%q, not\n%q", line, mark, k, told(all, now), told(l, behind))
		}
		cuts++
	}
	return cuts
}

// holdAll holds all that is told of a line, at every place, and some that are none.
func holdAll(t *testing.T, line string, mark byte) {
	t.Helper()
	for at := -1; at <= len(line)+1; at++ {
		holdModel(t, line, at, mark)
		holdForm(t, line, at, mark)
	}
}

// P15.1 to P15.4: whatever the line and the mark.
func TestAnyLine(t *testing.T) {
	seed := uint64(15)
	kinds := map[uint8]int{}
	cuts, open := 0, 0
	for range 60000 {
		line, mark := anyLine(&seed), anyMark(&seed)
		holdAll(t, line, mark)
		cuts += holdCuts(t, line, mark)
		l, behind := shword.Read(line, 0, mark)
		for _, p := range l {
			kinds[p.Kind]++
		}
		if behind != 0 {
			open++
		}
	}
	if kinds[api.ShWord] < 10000 || kinds[api.ShOp] < 10000 || kinds[api.ShComment] < 1000 || kinds[api.ShJoin] < 1000 || cuts < 10000 || open < 1000 {
		t.Errorf("%v, %d cuts, %d open: the lines try too little", kinds, cuts, open)
	}
}

// P15.1 to P15.4: all lines of few bytes of those that mean something.
func TestShortLines(t *testing.T) {
	for _, x := range []struct {
		letters string
		n       int
	}{{" '\"\\a\n", 6}, {" \t#<-&'\\a\n", 4}, {"\"\\$`'a\n", 5}} {
		for _, line := range lines(x.letters, x.n) {
			for _, mark := range []byte{0, apart, within} {
				holdModel(t, line, 0, mark)
				holdForm(t, line, 0, mark)
				holdCuts(t, line, mark)
			}
		}
	}
}

// P15.1: every byte, as the first one, the last one, and one between others; in quotes, and behind a backslash.
func TestEveryByte(t *testing.T) {
	for c := range 256 {
		b := string([]byte{byte(c)})
		for _, x := range []string{"%", "%a", "a%", "a%b", "% ", " %", `\%`, `a\%b`, "'%", "'%'", "'a%b'", `"%`, `"%"`, `"a%b"`, `"\%"`, `"\%`, `"\%b" c`, "<%", "<<%", ">%", "&%", "#%", "a #%", "%#", `%\`, "%'a'", "%<<-"} {
			line := strings.ReplaceAll(x, "%", b)
			for _, mark := range []byte{0, apart, within, byte(c)} {
				holdAll(t, line, mark)
				holdAll(t, line+"\n", mark)
			}
		}
	}
}

// P15.3: a text without LF and without ', in ', is one word of that text.
func TestAnyText(t *testing.T) {
	hold := func(text string) {
		t.Helper()
		line := "'" + text + "'"
		want := shword.Piece{Kind: api.ShWord, To: len(line), Text: text, Raw: true, Whole: true}
		for _, end := range []string{"", "\n"} {
			if l, mark := shword.Read(line+end, 0, 0); len(l) != 1 || l[0] != want || mark != 0 {
				t.Fatalf("Read(%.80q) tells %.80q", line+end, told(l, mark))
			}
			l, mark := shword.Read("a <<-"+line+" # b"+end, 0, 0)
			if now := moved([]shword.Piece{want}, 5)[0]; len(l) != 4 || l[2] != now || mark != 0 {
				t.Fatalf("Read(a <<-%.80q # b) tells %.80q", line, told(l, mark))
			}
		}
	}
	seed := uint64(4)
	for range 20000 {
		hold(anyBytes(&seed, 20, "\n'"))
	}
	for _, text := range lines("\"\\ #<$", 5) {
		hold(text)
	}
	for c := range 256 {
		if c != '\n' && c != '\'' {
			hold(strings.Repeat(string([]byte{byte(c)}), 2))
		}
	}
	hold(strings.Repeat("a\\\" #", 100000))
}

// R1: a line of more than MaxText bytes is read, too, at its beginning and far behind that.
func TestLongLines(t *testing.T) {
	const n = api.MaxText + 9
	for _, piece := range []string{" ", "a", "#", "'", `"`, `\`, `"\`, "<", "<<-", ";", "\r", "\n", "\xff", "a b", "'a' ", `\a`} {
		line := strings.Repeat(piece, n/len(piece))
		for _, at := range []int{0, 1, len(line) / 2, len(line) - 1, len(line), len(line) + 1} {
			for _, mark := range []byte{0, apart, within} {
				holdForm(t, line, at, mark)
			}
		}
	}
}
