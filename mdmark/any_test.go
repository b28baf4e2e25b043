package mdmark_test

import (
	"strings"
	"testing"

	"indenture/api"
	"indenture/mdmark"
)

// pieces are what lines are made of.
var pieces = []string{
	" ", " ", " ", "\t", "#", "##", " #", "*", "* ", "-", "- ", "--", "_", "=", "==", "+", "~", "~~~", "`", "```", ".", ")", "1", "23", "456789", ". ", ") ", "a", "b c", `\`, "\r", "\n", "\x00", "\v", "\xff", "\xc2\xa0",
}

// turn goes on to the next number of a row that looks unordered, and answers one from 0 to n - 1.
func turn(seed *uint64, n int) int {
	*seed = *seed*6364136223846793005 + 1442695040888963407
	return int(*seed >> 33 % uint64(n))
}

// anyBytes are n bytes, whatever they are, but none of not.
func anyBytes(seed *uint64, n int, not string) string {
	b := make([]byte, 0, n)
	for len(b) < n {
		if c := byte(turn(seed, 256)); strings.IndexByte(not, c) < 0 {
			b = append(b, c)
		}
	}
	return string(b)
}

// anyLine is a line of whatever bytes, of pieces that mean something, or of few different ones.
func anyLine(seed *uint64) string {
	end := []string{"", "\n", "\r\n", "\n# a"}[turn(seed, 4)]
	if turn(seed, 6) == 0 {
		return anyBytes(seed, turn(seed, 12), "") + end
	}
	few := []string{pieces[turn(seed, len(pieces))], pieces[turn(seed, len(pieces))], " "}
	if turn(seed, 2) == 0 {
		few = pieces
	}
	var b strings.Builder
	for range turn(seed, 12) {
		b.WriteString(few[turn(seed, len(few))])
	}
	return b.String() + end
}

// P18.1 to P18.6: whatever the line, at every place.
func TestAnyLine(t *testing.T) {
	seed := uint64(18)
	count := map[string]int{}
	for range 60000 {
		line := anyLine(&seed)
		for at := -1; at <= len(line)+1; at++ {
			holdModel(t, line, at)
			for _, r := range all {
				if _, is := r.of(line, at); is {
					count[r.name]++
				}
			}
		}
	}
	for _, r := range all {
		if count[r.name] < 2000 {
			t.Errorf("%s tells something %d times: the lines try too little", r.name, count[r.name])
		}
	}
}

// lines are all lines of at most n of the bytes of letters.
func lines(letters string, n int) []string {
	all := []string{""}
	for from := 0; n > 0; n-- {
		to := len(all)
		for _, l := range all[from:to] {
			for i := range len(letters) {
				all = append(all, l+letters[i:i+1])
			}
		}
		from = to
	}
	return all
}

// P18.1 to P18.6: all lines of few bytes of those that mean something.
func TestShortLines(t *testing.T) {
	both := 0
	for _, x := range []struct {
		letters string
		n       int
	}{{"# a\t", 7}, {"-*= \t", 5}, {"- a", 7}, {"~`a ", 6}, {"1.)- a", 5}, {"*_\r\n ", 5}, {"#-~1.\r\n ", 4}} {
		for _, line := range lines(x.letters, x.n) {
			if holdModel(t, line, 0) > 1 {
				both++
			}
			holdModel(t, line, 1)
		}
	}
	if both < 100 {
		t.Errorf("%d lines that stand as more than one: too few", both)
	}
}

// P18.1 to P18.5: every byte, in every place of what is told.
func TestEveryByte(t *testing.T) {
	for c := range 256 {
		b := string([]byte{byte(c)})
		for _, x := range []string{"%", "%%%", "% % %", "% a", "%a", "***%", "*%**", "** %*", "---%", "#%", "# %", "#%a", "# a%#", "# a%", "# a #%", "# a %#", "######%", "==%", "-%", "~~~%", "~~%", "```%", "``` %", "1%", "1% a", "%. a", "1.%", "12%) a", "-%a", "+%", "%1. a"} {
			line := strings.ReplaceAll(x, "%", b)
			for at := range len(line) {
				holdModel(t, line, at)
				holdModel(t, line+"\n", at)
				holdModel(t, line+"\r\n", at)
			}
		}
	}
}

// P18.6: what stands as two of Rule, Under and Item.
func TestBothAtOnePlace(t *testing.T) {
	for _, line := range []string{"---", "----- ", "---\t"} {
		if n := holdModel(t, line, 0); n != 2 {
			t.Errorf("%d stand in %q", n, line)
		}
		under.holdAll(t, line, anUnder('-', len(strings.TrimRight(line, " \t"))))
		rule.holdAll(t, line, aRule('-', len(strings.TrimRight(line, " \t")), len(strings.TrimRight(line, " \t"))))
		item.holdAll(t, line, none)
	}
	for _, line := range []string{"- - -", "* **", "-\t--", "* * * *"} {
		if n := holdModel(t, line, 0); n != 2 {
			t.Errorf("%d stand in %q", n, line)
		}
		under.holdAll(t, line, none)
		rule.holdAll(t, line, aRule(line[0], strings.Count(line, line[:1]), len(line)))
		item.holdAll(t, line, anItem(line[0], 0, 1, len(line)))
	}
	under.holdAll(t, "-", anUnder('-', 1))
	item.holdAll(t, "-", anItem('-', 0, 1, 1))
	under.holdAll(t, "--", anUnder('-', 2))
	item.holdAll(t, "--", none)
	rule.holdAll(t, "--", none)
}

// P18.7: a heading that is laid is read with just its words as its content, whether it is closed or not.
func TestAnyHeading(t *testing.T) {
	seed := uint64(7)
	spaces := func(least int) string {
		var b strings.Builder
		for range least + turn(&seed, 3) {
			b.WriteByte(" \t"[turn(&seed, 2)])
		}
		return b.String()
	}
	closed := 0
	for range 40000 {
		var words []string
		for range 1 + turn(&seed, 4) {
			words = append(words, anyBytes(&seed, 1+turn(&seed, 5), " \t\r\n#"))
			if turn(&seed, 4) == 0 {
				words = append(words, strings.Repeat("#", 1+turn(&seed, 3))+"a", "b##")
			}
		}
		content := words[0]
		for _, word := range words[1:] {
			content += spaces(1) + word
		}
		count := 1 + turn(&seed, 6)
		ahead := strings.Repeat("#", count) + spaces(1)
		line := ahead + content
		if turn(&seed, 2) == 0 {
			line += spaces(1) + strings.Repeat("#", 1+turn(&seed, 9))
			closed++
		}
		want := mdmark.Mark{Count: count, To: count, From: len(ahead), End: len(ahead + content), Last: len(line)}
		head.holdAll(t, line+spaces(0), want)
	}
	if closed < 10000 {
		t.Errorf("%d headings are closed: too few", closed)
	}
}

// R1: a line of more than MaxText bytes is read, too, at its beginning and far behind that.
func TestLongLines(t *testing.T) {
	const n = api.MaxText + 9
	for _, piece := range []string{" ", "\t", "#", "*", "- ", "_", "=", "~", "`", "1", "a", "\r", "\n", "\x00", "# ", "-\t"} {
		for _, ahead := range []string{"", "# ", "- ", "```", "1. ", "***"} {
			line := ahead + strings.Repeat(piece, n/len(piece))
			for _, at := range []int{0, 1, len(line) / 2, len(line) - 1, len(line)} {
				for _, r := range all {
					if m, is := r.of(line, at); is && (m.Last <= at || m.Last > len(line)) || !is && m != none {
						t.Errorf("%s of %q, very often, at %d: %v, %v", r.name, ahead+piece, at, m, is)
					}
				}
			}
		}
	}
	rule.hold(t, strings.Repeat("* ", n), 0, aRule('*', n, 2*n-1))
	under.hold(t, strings.Repeat("=", n), 0, anUnder('=', n))
	fence.hold(t, strings.Repeat("`", n), 0, aFence('`', n, n))
	head.hold(t, "# "+strings.Repeat("a ", n)+strings.Repeat("#", n), 0, aHead(1, 2, 2*n+1, 3*n+2))
	head.hold(t, strings.Repeat("#", n), 0, none)
	item.hold(t, strings.Repeat("1", n), 0, none)
	item.hold(t, "- "+strings.Repeat("a", n), 0, anItem('-', 0, 1, n+2))
}
