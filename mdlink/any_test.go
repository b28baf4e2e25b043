package mdlink_test

import (
	"math"
	"slices"
	"strings"
	"testing"

	"indenture/api"
	"indenture/mdlink"
)

// pieces are what lines are made of.
var pieces = []string{
	" ", " ", "\t", "[", "[", "[", "]", "]", "![", "](", "](", "][", "[]", "(", "(", ")", ")", "<", ">", `\`, "`", "``", `"`, `"t"`, "'", "a", "a", "b", "B", "c d", "[a]", "[b]", "[a](b)", "![a](b)", "&lt;", "<ab:", "!", "\r", "\n", "\x00", "\x7f", "\xff", "\xc3\xa9",
}

// labels are some that may be known.
var labels = []string{"a", "b", "c d", "a b", "aa", "ab", `a\`, "a `", "\xff", "\xc3\xa9", "", "B"}

// turn goes on to the next number of a row that looks unordered, and answers one from 0 to n - 1.
func turn(seed *uint64, n int) int {
	*seed = *seed*6364136223846793005 + 1442695040888963407
	return int(*seed >> 33 % uint64(n))
}

// anyLine is a line of pieces that mean something, or of few different ones.
func anyLine(seed *uint64) string {
	few := []string{pieces[turn(seed, len(pieces))], pieces[turn(seed, len(pieces))], "[", "](", ")", "a"}
	if turn(seed, 3) > 0 {
		few = pieces
	}
	var b strings.Builder
	for range turn(seed, 20) {
		b.WriteString(few[turn(seed, len(few))])
	}
	return b.String() + []string{"", "\n", "\r\n", "\n)", "  \n"}[turn(seed, 5)]
}

// anyKnown are some labels.
func anyKnown(seed *uint64) []string {
	var l []string
	for range turn(seed, 5) {
		l = append(l, labels[turn(seed, len(labels))])
	}
	return l
}

// P22.1 to P22.5: whatever the line, at every place, up to every place.
func TestAnyLine(t *testing.T) {
	seed := uint64(22)
	count := 0
	for range 60000 {
		line, known := anyLine(&seed), anyKnown(&seed)
		count += holdModel(t, line, 0, len(line), known)
		end := turn(&seed, len(line)+3) - 1
		for from := -1; from <= len(line)+1; from++ {
			holdModel(t, line, from, len(line), known)
			holdModel(t, line, from, end, known)
		}
	}
	if count < 20000 {
		t.Errorf("%d links: the lines try too little", count)
	}
}

// lines are all lines of at most n of the pieces.
func lines(n int, pieces ...string) []string {
	all := []string{""}
	for from := 0; n > 0; n-- {
		to := len(all)
		for _, line := range all[from:to] {
			for _, x := range pieces {
				all = append(all, line+x)
			}
		}
		from = to
	}
	return all
}

// P22.1 to P22.5: all lines of few of the pieces that mean something.
func TestShortLines(t *testing.T) {
	for _, l := range [][]string{
		lines(6, "[a](", "(", ")", "b", " ", `"t"`, `\`),
		lines(7, "[", "]", "a", "(", ")"),
		lines(6, "[a]", "[", "]", "!", "[]", "(b)"),
		lines(5, "[", "](", ")", "<", ">", `\`, " "),
		lines(5, "[", "](b)", "`", `\`, "!", "a"),
	} {
		for _, line := range l {
			holdModel(t, line, 0, len(line), []string{"a"})
			if strings.HasPrefix(line, "[") {
				holdModel(t, line, 1, len(line), nil)
			}
		}
	}
}

// P22.1, P22.2: parentheses that open and do not close, ahead of others.
func TestManyParentheses(t *testing.T) {
	seed := uint64(9)
	count := 0
	for range 100000 {
		var b strings.Builder
		for range 1 + turn(&seed, 24) {
			b.WriteString([]string{"[a](", "[a](", "[a](b", "(", ")", ")", "b", " ", ` "t")`, `\`, `\(`, "<", "[", "]"}[turn(&seed, 14)])
		}
		line := b.String()
		count += holdModel(t, line, 0, len(line), nil)
	}
	if count < 50000 {
		t.Errorf("%d links: the lines try too little", count)
	}
}

// P22.4: what Links tells hangs on those of known alone that Mentions tells.
func TestKnownLabels(t *testing.T) {
	seed := uint64(4)
	some := 0
	for range 60000 {
		line, known := anyLine(&seed), anyKnown(&seed)
		from, end := turn(&seed, 3), len(line)-turn(&seed, 4)
		names := mdlink.Mentions(line, from, end)
		var mentioned []string
		for _, name := range known {
			if slices.Contains(names, name) {
				mentioned = append(mentioned, name)
			}
		}
		want := mdlink.Links(line, from, end, known)
		if l := mdlink.Links(line, from, end, mentioned); !slices.Equal(l, want) {
			t.Fatalf("Links(%q, %d, %d, %q) = %s, with %q %s", line, from, end, known, told(want), mentioned, told(l))
		}
		if len(want) > 0 && len(mentioned) > 0 {
			some++
		}
	}
	if some < 2000 {
		t.Errorf("%d lines have links, and mention what is known: too few", some)
	}
}

// laid is text with links that is laid, and the links that it is to have.
type laid struct {
	text  string
	links []mdlink.Link
}

// put puts what is laid behind it.
func (l *laid) put(other laid) {
	l.links = append(l.links, moved(other.links, len(l.text))...)
	l.text += other.text
}

// anyWords are words with no signs of their own.
func anyWords(seed *uint64) laid {
	text := ""
	for range 1 + turn(seed, 3) {
		text += []string{"a", "bc ", " d", "\xc3\xa9", "\xff", "e, f.", "`]`", `\]`, "<ab:]>", "&amp;", "(g)", "!"}[turn(seed, 12)]
	}
	// Ahead of a link it would make an image.
	return laid{text: strings.TrimRight(text, "!")}
}

// anyTarget is a target.
func anyTarget(seed *uint64) string {
	blank := []string{"", " ", "\t "}
	goal := []string{"", "<>", "<b c>", "b", "b(c)d", `b\)`, "\xff", "#", "<(>"}[turn(seed, 9)]
	title := []string{"", ` "t"`, "  't)'", "\t(t u)", ` "\""`}[turn(seed, 5)]
	if goal == "" {
		title = ""
	}
	return "(" + blank[turn(seed, 3)] + goal + title + blank[turn(seed, 3)] + ")"
}

// anyLink is a link, or an image, that is laid, with images within, so deep.
func anyLink(seed *uint64, image bool, depth int) laid {
	l := laid{text: "["}
	if image {
		l.text = "!["
	}
	open := len(l.text)
	l.put(anyWords(seed))
	for depth > 0 && turn(seed, 2) == 0 {
		l.put(anyLink(seed, true, depth-1))
		l.put(anyWords(seed))
	}
	mid := len(l.text)
	l.text += "]" + anyTarget(seed)
	l.links = append(l.links, mdlink.Link{From: 0, Open: open, Mid: mid, To: len(l.text), Image: image})
	return l
}

// P22.6: a link that is laid, with a text of words and a target, is told; an image within it, too.
func TestAnyLaid(t *testing.T) {
	seed := uint64(6)
	count := 0
	for range 40000 {
		var l laid
		for range 1 + turn(&seed, 3) {
			l.put(anyWords(&seed))
			l.put(anyLink(&seed, turn(&seed, 3) == 0, 3))
		}
		slices.SortFunc(l.links, func(a, b mdlink.Link) int { return a.From - b.From })
		if got := mdlink.Links(l.text+"\n", 0, math.MaxInt, nil); !slices.Equal(got, l.links) {
			t.Fatalf("of %q the links are %s, not %s", l.text, told(got), told(l.links))
		}
		count += len(l.links)
	}
	if count < 100000 {
		t.Errorf("%d links are laid: too few", count)
	}
}

// R1: long lines are read, too, also of more than MaxText bytes.
func TestLongLines(t *testing.T) {
	for _, piece := range []string{" ", "[", "]", "![", "[]", "[a]", "[a](", "[a](b", "[a](b ", `[a](b "`, "[a](<", "[a](<b> '", "](", "(", ")", `\`, "`", "!", "<", "&", "a", "\t", "[a](b)", "[a][b]", "[a](((", `[a](\(`} {
		for _, n := range []int{api.MaxText / 4, api.MaxText + 9} {
			line := strings.Repeat(piece, n/len(piece))
			if n < api.MaxText {
				mdlink.Links(line, 0, math.MaxInt, []string{"a"})
				mdlink.Links("[a](b"+line+" )", 0, math.MaxInt, []string{"a"})
			}
			mdlink.Target("("+line+")", 0, math.MaxInt)
			mdlink.Mentions(line, 0, math.MaxInt)
		}
	}
	const m = api.MaxText / 3
	line := strings.Repeat("[", m) + "a" + strings.Repeat("](b)", m)
	if l := mdlink.Links(line, 0, math.MaxInt, nil); len(l) != 1 || l[0].From != m-1 {
		t.Errorf("%d links in one another", len(l))
	}
	line = strings.Repeat("![", m) + "a" + strings.Repeat("](b)", m)
	if l := mdlink.Links(line, 0, math.MaxInt, nil); len(l) != m || l[0].To != len(line) {
		t.Errorf("%d images in one another", len(l))
	}
	line = strings.Repeat("[a](", m)
	if l := mdlink.Links(line+")", 0, math.MaxInt, nil); len(l) != 1 || l[0].To != len(line)+1 {
		t.Errorf("%d links behind parentheses that do not close", len(l))
	}
	line = "(" + strings.Repeat("(", m) + strings.Repeat(")", m) + ")"
	if to, is := mdlink.Target(line, 0, math.MaxInt); !is || to != len(line) {
		t.Errorf("Target tells %d, %v", to, is)
	}
}
