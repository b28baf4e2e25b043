package mdblock_test

import (
	"slices"
	"strings"
	"testing"

	"indenture/api"
	"indenture/mdblock"
)

// laid are frames that text is laid in: what their first line begins with, what each other one does, and what all others may leave away.
type laid struct {
	first, other []string
	signs        []string
}

// anyFrames are some quotes and items.
func anyFrames(seed *uint64, n int) laid {
	var l laid
	for range turn(seed, n+1) {
		ahead := strings.Repeat(" ", turn(seed, 3))
		if n := len(l.signs); n > 0 && l.signs[n-1] != ">" {
			// Blanks behind an item's mark are its own.
			ahead = ""
		}
		if turn(seed, 2) == 0 {
			l.first = append(l.first, ahead+"> ")
			l.other = append(l.other, strings.Repeat(" ", turn(seed, 3))+"> ")
			l.signs = append(l.signs, ">")
			continue
		}
		sign := []string{"-", "+", "*", "1.", "1)", "7.", "123)"}[turn(seed, 7)]
		mark := ahead + sign + strings.Repeat(" ", 1+turn(seed, 4))
		l.first = append(l.first, mark)
		l.other = append(l.other, strings.Repeat(" ", len(mark)))
		l.signs = append(l.signs, sign[len(sign)-1:]+string("0123456789abcdefg"[len(mark)]))
	}
	return l
}

// state is the state behind the first line of what is laid, with the block that is open.
func (l laid) state(m model) api.State {
	for _, x := range l.signs {
		if x == ">" {
			m.levels = append(m.levels, level{sign: '>'})
		} else {
			m.levels = append(m.levels, level{sign: x[0], col: strings.IndexByte("0123456789abcdefg", x[1])})
		}
	}
	return m.state()
}

// quoted is where one comes to on a line that begins with ahead, and has nothing but blanks behind: behind the last quote, since items take no columns there.
func (l laid) quoted(ahead string) int {
	if !slices.Contains(l.signs, ">") {
		return 0
	}
	return strings.LastIndexByte(ahead, '>') + len("> ")
}

// quotes are where the marks of quotes stand in what a line begins with.
func quotes(ahead string) []api.Event {
	var ev []api.Event
	for i := range len(ahead) {
		if ahead[i] == '>' {
			ev = append(ev, leaf(api.MdMark, i, i+1))
		}
	}
	return ev
}

// anyWords are words that begin nothing, and end with no blank.
func anyWords(seed *uint64) string {
	var l []string
	for range 1 + turn(seed, 4) {
		l = append(l, []string{"a", "b#", "c-", "#", "-", ">", "1.", "===", "~~~", "`", "[a]: b", "\xff", "\r.", "\\"}[turn(seed, 14)])
	}
	return []string{"x", "y-", "2.", "0)", "\\#", "--x", "=", "\"", "[b]: c", "12. z", "#x", "~~"}[turn(seed, 12)] + " " + strings.Join(l, " ")
}

// P19.11: a paragraph is one, within whatever quotes and items, also where its lines are told without their marks.
func TestAnyParagraph(t *testing.T) {
	seed := uint64(11)
	lazy := 0
	for range 20000 {
		l := anyFrames(&seed, 6)
		ahead := strings.Join(l.first, "")
		line := ahead + "x " + anyWords(&seed)
		ev, s := mdblock.Scan(api.State{}, line+"\n")
		if want := l.state(model{block: 'p'}); s != want {
			t.Fatalf("behind %q the state is %v, not %v", line, s, want)
		}
		if n := len(ev); ev[n-2] != begin(api.MdPara, len(ahead)) || ev[n-1] != text(len(ahead), len(line)) {
			t.Fatalf("%q tells %s", line, told(ev))
		}
		lines := []string{line}
		for range turn(&seed, 5) {
			kept := turn(&seed, len(l.other)+1)
			if turn(&seed, 2) == 0 {
				kept = len(l.other)
			}
			if kept < len(l.other) {
				lazy++
			}
			ahead := strings.Join(l.other[:kept], "")
			own := strings.Repeat(" ", turn(&seed, 4)*turn(&seed, 4)) + anyWords(&seed)
			line := ahead + own
			lines = append(lines, line)
			ev, behind := mdblock.Scan(s, line+"\n")
			words := strings.TrimLeft(own, " ")
			want := append(quotes(ahead), text(len(line)-len(words), len(line)))
			if !slices.Equal(ev, want) || behind != s {
				t.Fatalf("the last of %q tells %s, not %s; behind it is %v", lines, told(ev), told(want), behind)
			}
		}
	}
	if lazy < 10000 {
		t.Errorf("%d lines without marks: too few", lazy)
	}
}

// anyRaw is a line of whatever bytes.
func anyRaw(seed *uint64) string {
	if turn(seed, 4) == 0 {
		return strings.TrimSuffix(anyLine(seed), "\n")
	}
	return []string{"", " ", "x", "# x", "> x", "- x", "===", "***", "    x", "\tx", "~~", "``", "~~~ x", "~~~~~~~~~ x", "[a]: b", "\\", "   ", "\x00"}[turn(seed, 18)]
}

// P19.10: the lines between two fences are told as they stand, whatever they hold.
func TestAnyFence(t *testing.T) {
	seed := uint64(10)
	ends, blanks := 0, 0
	for range 20000 {
		l := anyFrames(&seed, 5)
		sign := "~`"[turn(&seed, 2)]
		count, shift := 3+turn(&seed, 4), turn(&seed, 4)
		if n := len(l.signs); n > 0 && l.signs[n-1] != ">" {
			shift = 0
		}
		fence := strings.Repeat(string(sign), count)
		ahead := strings.Join(l.first, "") + strings.Repeat(" ", shift)
		line := ahead + fence + []string{"", " go", " x y "}[turn(&seed, 3)]
		s := l.state(model{block: sign, count: count, shift: shift})
		if _, now := mdblock.Scan(api.State{}, line+"\n"); now != s {
			t.Fatalf("behind %q the state is %v, not %v", line, now, s)
		}
		for range turn(&seed, 6) {
			ahead := strings.Join(l.other, "")
			own := strings.TrimRight(ended(anyRaw(&seed)), "\r")
			if strings.Contains(own, string(sign)+string(sign)+string(sign)) {
				own = "x" + own
			}
			line := ahead + strings.Repeat(" ", shift) + own
			from := len(line) - len(own)
			if strings.Trim(own, " \t") == "" {
				from = shift + l.quoted(ahead)
				blanks++
			}
			want := quotes(ahead)
			if from < len(line) {
				want = append(want, leaf(api.MdRaw, from, len(line)))
			}
			if ev, behind := mdblock.Scan(s, line+"\n"); !slices.Equal(ev, want) || behind != s {
				t.Fatalf("%q from %v tells %s, not %s; behind it is %v", line, s, told(ev), told(want), behind)
			}
		}
		ahead = strings.Join(l.other, "")
		from := ahead + strings.Repeat(" ", turn(&seed, 4))
		line = from + fence + strings.Repeat(string(sign), turn(&seed, 3))
		ev, behind := mdblock.Scan(s, line+strings.Repeat(" ", turn(&seed, 3))+"\n")
		want := append(quotes(ahead), leaf(api.MdMark, len(from), len(line)), shut(len(line)))
		if !slices.Equal(ev, want) || behind != l.state(model{}) {
			t.Fatalf("%q from %v tells %s, not %s; behind it is %v", line, s, told(ev), told(want), behind)
		}
		ends++
	}
	if ends < 20000 || blanks < 5000 {
		t.Errorf("%d fences end, %d lines have nothing but blanks", ends, blanks)
	}
}

// item is what is laid as an item: words, and a list within it, which is loose or tight.
type item struct {
	words string
	more  []item
	loose bool
}

// anyItems are the items of a list, which lies so deep.
func anyItems(seed *uint64, depth int) []item {
	var l []item
	for range 1 + turn(seed, 3) {
		i := item{words: "x", loose: turn(seed, 2) == 0}
		if depth > 0 && turn(seed, 2) == 0 {
			i.more = anyItems(seed, depth-1)
		}
		l = append(l, i)
	}
	return l
}

// lay is a list as lines: its items have blank lines between, if it is loose.
func lay(l []item, loose bool, ahead string, lines []string) []string {
	for i, x := range l {
		if i > 0 && loose {
			lines = append(lines, "")
		}
		lines = append(lines, ahead+"- "+x.words)
		if len(x.more) > 0 {
			lines = lay(x.more, x.loose, ahead+"  ", lines)
		}
	}
	return lines
}

// tree tells what is laid: of each list, in the order in which they end, whether it is loose.
func tree(l []item, loose bool, kinds []bool) []bool {
	for _, x := range l {
		if len(x.more) > 0 {
			kinds = tree(x.more, x.loose, kinds)
		}
	}
	// Of one item nothing tells blank lines between.
	return append(kinds, loose && len(l) > 1)
}

// P19.5, P19.6: lists within lists are loose just if blank lines part their items.
func TestAnyLists(t *testing.T) {
	seed := uint64(6)
	count := map[bool]int{}
	for range 20000 {
		l, loose := anyItems(&seed, 4), turn(&seed, 2) == 0
		var s api.State
		var kinds []bool
		var open []uint8
		take := func(ev []api.Event) {
			for _, e := range ev {
				switch e.Op {
				case api.OpOpen:
					open = append(open, e.Kind)
				case api.OpClose:
					if open[len(open)-1] == api.MdTight {
						kinds = append(kinds, e.Kind == api.MdLoose)
					}
					open = open[:len(open)-1]
				}
			}
		}
		lines := lay(l, loose, "", nil)
		for _, line := range lines {
			var ev []api.Event
			ev, s = mdblock.Scan(s, line+"\n")
			take(ev)
		}
		take(mdblock.End(s))
		want := tree(l, loose, nil)
		if !slices.Equal(kinds, want) {
			t.Fatalf("of %q the lists are loose as %v, not %v", lines, kinds, want)
		}
		for _, is := range want {
			count[is]++
		}
	}
	if count[true] < 10000 || count[false] < 10000 {
		t.Errorf("%v: the lists try too little", count)
	}
}
