package mdlabel_test

import (
	"strings"
	"testing"

	"indenture/api"
	"indenture/mdlabel"
)

// pieces are what lines are made of.
var pieces = []string{
	" ", " ", "\t", "[", "[", "]", "]", "]:", "]: ", "[a]:", "[ B\tc ]: ", "<", "<", ">", "(", ")", `"`, `"`, "'", `\`, `\`, `\\`, `\]`, `\"`, ":", "a", "A", "b", "\r", "\n", "\x00", "\x7f", "\x80", "\xff", "\xc3\xa9", "!", "/",
}

// turn goes on to the next number of a row that looks unordered, and answers one from 0 to n - 1.
func turn(seed *uint64, n int) int {
	*seed = *seed*6364136223846793005 + 1442695040888963407
	return int(*seed >> 33 % uint64(n))
}

// anyBytes are n bytes, whatever they are, but none of not.
func anyBytes(seed *uint64, n int, not string) string {
	b := make([]byte, 0, n)
	for len(b) < n {
		if c := byte(turn(seed, 256)); strings.IndexByte(not, c) < 0 {
			b = append(b, c)
		}
	}
	return string(b)
}

// anyLine is a line of whatever bytes, or of pieces that mean something.
func anyLine(seed *uint64) string {
	end := []string{"", "\n", "\r\n", "\n]>"}[turn(seed, 4)]
	if turn(seed, 6) == 0 {
		return anyBytes(seed, turn(seed, 12), "") + end
	}
	var b strings.Builder
	for range turn(seed, 14) {
		b.WriteString(pieces[turn(seed, len(pieces))])
	}
	return b.String() + end
}

// P17.2, P17.3: whatever the line, at every place, up to every end.
func TestAnyLine(t *testing.T) {
	seed := uint64(17)
	told, defs := map[string]int{}, 0
	for range 15000 {
		line := anyLine(&seed)
		for at := -1; at <= len(line)+1; at++ {
			for end := -1; end <= len(line)+1; end++ {
				holdModel(t, line, at, end)
			}
			if holdDefModel(t, line, at) {
				defs++
			}
			for _, r := range []reading{label, dest, title} {
				if _, is := r.of(line, at, len(line)); is {
					told[r.name]++
				}
			}
		}
	}
	if told["Read"] < 1000 || told["Dest"] < 1000 || told["Title"] < 1000 || defs < 300 {
		t.Errorf("%v, %d definitions: the lines try too little", told, defs)
	}
}

// lines are all lines of at most n of the bytes of letters.
func lines(letters string, n int) []string {
	all := []string{""}
	for from := 0; n > 0; n-- {
		to := len(all)
		for _, l := range all[from:to] {
			for i := range len(letters) {
				all = append(all, l+letters[i:i+1])
			}
		}
		from = to
	}
	return all
}

// P17.2, P17.3: all lines of few bytes of those that mean something.
func TestShortLines(t *testing.T) {
	for _, x := range []struct {
		letters string
		n       int
	}{{"[] \\a", 6}, {"<> \\a\x7f", 5}, {"\"'()\\a", 5}, {"[]\\\r\n\t", 5}} {
		for _, line := range lines(x.letters, x.n) {
			holdModel(t, line, 0, len(line))
			holdModel(t, line, 1, len(line)-1)
			holdDefModel(t, line, 0)
		}
	}
	for _, rest := range append(lines("a <>\"(", 5), lines(" \t')\\b", 5)...) {
		holdDefModel(t, "[x]:"+rest, 0)
		holdDefModel(t, "[x]: y "+rest+"\n", 0)
		holdDefModel(t, "[x]:<y>"+rest, 0)
	}
}

// P17.2, P17.3: every byte, in every place of what is read.
func TestEveryByte(t *testing.T) {
	for c := range 256 {
		b := string([]byte{byte(c)})
		for _, x := range []string{"%", "%a]", "[%]", "[a%]", "[%a]", `[\%]`, `[\%]]`, "[a]%", "<%>", "<a%>", `<\%>`, `<\%>>`, "<a>%", "%a", "a%", "a%b", `\%`, `"%"`, `"\%"`, `'%'`, `'\%''`, "(%)", `(\%)`, "[a]%b", "[a]%: b", "[a]:%b", "[a]:%", "[a]: b%", "[a]: b %", "[a]: b%\"t\"", "[a]: <b>%(t)", "[a]: b \"t\"%", "[a]: b \"t%\"", "[%]: b", "[a%b]: c"} {
			line := strings.ReplaceAll(x, "%", b)
			for _, end := range []string{"", "\n"} {
				holdModel(t, line+end, 0, len(line))
				holdModel(t, line+end, 0, len(line)+1)
				holdModel(t, line+end, 1, len(line)-1)
				holdDefModel(t, line+end, 0)
			}
		}
	}
}

// P17.1, P17.4: folded forms are folded already; blanks and capitals do not part labels.
func TestFoldedForms(t *testing.T) {
	seed := uint64(1)
	spaces := func(least int) string {
		var b strings.Builder
		for range least + turn(&seed, 3) {
			b.WriteByte(" \t"[turn(&seed, 2)])
		}
		return b.String()
	}
	for range 40000 {
		bytes := anyLine(&seed)
		once := mdlabel.Fold(bytes)
		if once != folded(bytes) {
			t.Fatalf("Fold(%q) = %q, not %q", bytes, once, folded(bytes))
		}
		holdFold(t, once, once)
		other := spaces(0)
		for i, word := range strings.Split(once, " ") {
			if i > 0 {
				other += spaces(1)
			}
			for k := range len(word) {
				c := word[k]
				if c >= 'a' && c <= 'z' && turn(&seed, 2) == 0 {
					c -= 32
				}
				other += string([]byte{c})
			}
		}
		holdFold(t, other+spaces(0), once)
	}
}

// P17.4: a label whose brackets and backslashes have a backslash ahead of them is read whole.
func TestAnyLabel(t *testing.T) {
	seed := uint64(4)
	quote := strings.NewReplacer(`\`, `\\`, "[", `\[`, "]", `\]`)
	for range 40000 {
		bytes := quote.Replace(anyBytes(&seed, 1+turn(&seed, 30), "\n"))
		if turn(&seed, 4) == 0 {
			bytes = quote.Replace(strings.Repeat(pieces[turn(&seed, len(pieces))], 1+turn(&seed, 130)))
		}
		if strings.ContainsAny(bytes, "\n") || !isLabel(bytes) {
			continue
		}
		label.holdAll(t, "["+bytes+"]", len(bytes)+2)
		label.holdAll(t, "["+bytes+"](b) [c]", len(bytes)+2)
		holdDef(t, "> ["+bytes+"]: b", 2, folded(bytes), len(bytes)+7)
	}
}

// P17.5: what Def reads ends with a byte that is no blank; what stands ahead plays no part, nor does the line's end.
func TestAnyDef(t *testing.T) {
	seed := uint64(5)
	count := 0
	for range 60000 {
		line := ended("[" + anyLine(&seed))
		if turn(&seed, 2) == 0 {
			line = ended("[a B]:" + anyLine(&seed))
		}
		name, to, is := mdlabel.Def(line, 0)
		if is {
			count++
			if line[to-1] == ' ' || line[to-1] == '\t' || strings.Trim(line[to:], " \t") != "" {
				t.Fatalf("Def(%q, 0) ends at %d", line, to)
			}
			holdFold(t, name, name)
		}
		ahead := ended(anyLine(&seed))
		for _, end := range []string{"", "\n", "\r\n"} {
			if end == "\n" && strings.HasSuffix(line, "\r") {
				continue
			}
			if is {
				holdDef(t, ahead+line+end, len(ahead), name, len(ahead)+to)
			} else {
				holdDef(t, ahead+line+end, len(ahead), "", 0)
			}
		}
	}
	if count < 5000 {
		t.Errorf("%d definitions: the lines try too little", count)
	}
}

// R1: a line of more than MaxText bytes is read, too.
func TestLongLines(t *testing.T) {
	const n = api.MaxText + 9
	for _, piece := range []string{" ", "\t", "a", "[", "]", "<", ">", `\`, `"`, "(", "\r", "\n", "\x00", "\xff", "[a]: "} {
		for _, ahead := range []string{"", "[", "<", "'", "(", `"\`, "[a]:", "[a]: <", "[a]: b ", "[a]: b '"} {
			line := ahead + strings.Repeat(piece, n/len(piece))
			for _, at := range []int{0, 1, len(line) / 2, len(line) - 1, len(line)} {
				holdSkip(t, line, at, len(line), skipped(line, at, len(line)))
				for _, r := range []reading{label, dest, title} {
					if to, is := r.of(line, at, len(line)); is && (to <= at || to > len(line)) || !is && to != 0 {
						t.Errorf("%s of %q, very often, at %d: %d, %v", r.name, ahead+piece, at, to, is)
					}
				}
				mdlabel.Def(line, at)
			}
			mdlabel.Fold(line)
		}
	}
	name := strings.Repeat("a", n)
	dest.hold(t, name, 0, n, n)
	dest.hold(t, "<"+name+">", 0, n+2, n+2)
	title.hold(t, "("+name+")", 0, n+2, n+2)
	label.hold(t, "["+name+"]", 0, n+2, 0)
	holdDef(t, "[b]: <"+name+"> '"+name+"'", 0, "b", 2*n+10)
}
