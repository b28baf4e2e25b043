package mdlink_test

import (
	"slices"
	"strings"
	"testing"

	"indenture/mdcode"
	"indenture/mdlabel"
	"indenture/mdlink"
)

// ended is a line without its end, and what is behind that.
func ended(line string) string {
	k := strings.IndexByte(line, 10)
	switch {
	case k < 0:
		return line
	case k > 0 && line[k-1] == 13:
		return line[:k-1]
	}
	return line[:k]
}

// part is what a line has ahead of an end, and of its own.
func part(line string, end int) string {
	own := ended(line)
	return own[:max(0, min(end, len(own)))]
}

// isMark tells whether c is a mark.
func isMark(c byte) bool {
	return strings.IndexByte("!\"#$%&'()*+,-./:;<=>?@[\\]^_`{|}~", c) >= 0
}

// taken tells of each byte of a text whether a backslash took it.
func taken(s string) []bool {
	l := make([]bool, len(s))
	for i := 1; i < len(s); i++ {
		l[i] = s[i-1] == '\\' && !l[i-1] && isMark(s[i])
	}
	return l
}

// bare is how many bytes the goal has with which a text begins that begins with no <; 0, if there is none.
func bare(s string) int {
	if i := strings.IndexFunc(s, func(c rune) bool { return c <= 32 || c == 127 }); i >= 0 {
		s = s[:i]
	}
	took, depth := taken(s), 0
	for i := range len(s) {
		if s[i] == '(' && !took[i] {
			depth++
		}
		if s[i] == ')' && !took[i] {
			if depth == 0 {
				return i
			}
			depth--
		}
	}
	if depth > 0 {
		return 0
	}
	return len(s)
}

// blanksOf are the first place from at on at which no blank stands.
func blanksOf(s string, at int) int { return len(s) - len(strings.TrimLeft(s[at:], "\t ")) }

// target is what Target tells, by the words alone: whatever may stand in a target is tried, and left away.
func target(line string, at, end int) (int, bool) {
	own := part(line, end)
	if at < 0 || at >= len(own) || own[at] != '(' {
		return 0, false
	}
	begin := blanksOf(own, at+1)
	ends := []int{begin}
	to := 0
	if strings.HasPrefix(own[begin:], "<") {
		to, _ = mdlabel.Dest(own, begin, len(own))
	} else if n := bare(own[begin:]); n > 0 {
		to = begin + n
	}
	if to > 0 {
		ends = append(ends, to)
		if title, is := mdlabel.Title(own, blanksOf(own, to), len(own)); is && blanksOf(own, to) > to {
			ends = append(ends, title)
		}
	}
	for _, x := range ends {
		if x = blanksOf(own, x); strings.HasPrefix(own[x:], ")") {
			return x + 1, true
		}
	}
	return 0, false
}

// sign is an opener by the words alone.
type sign struct {
	at            int
	image, barred bool
}

// links are what Links tells, by the words alone.
func links(line string, from, end int, known []string) []mdlink.Link {
	own := part(line, end)
	if from < 0 {
		return nil
	}
	var l []mdlink.Link
	var signs []sign
	for at := from; at < len(own); {
		kind, next := mdcode.Read(line, at, end)
		switch {
		case kind != 0 || next != at+1:
			at = next
		case strings.HasPrefix(own[at:], "!["):
			signs = append(signs, sign{at: at, image: true})
			at += 2
		case own[at] == '[':
			signs = append(signs, sign{at: at})
			at++
		case own[at] == ']' && len(signs) > 0:
			last := signs[len(signs)-1]
			signs = signs[:len(signs)-1]
			x := mdlink.Link{From: last.at, Open: last.at + 1, Mid: at, To: at + 1, Image: last.image}
			if x.Image {
				x.Open++
			}
			to := linkEnd(own, x.Open, at, known)
			if last.barred || to == 0 {
				at++
				continue
			}
			x.To = to
			l = append(l, x)
			for i := range signs {
				signs[i].barred = signs[i].barred || !x.Image && !signs[i].image
			}
			at = to
		default:
			at++
		}
	}
	slices.SortFunc(l, func(a, b mdlink.Link) int { return a.From - b.From })
	return l
}

// linkEnd is the place behind a link whose text goes from open to mid; 0, if it is none.
func linkEnd(own string, open, mid int, known []string) int {
	k := mid + 1
	if to, is := target(own, k, len(own)); is {
		return to
	}
	if to, is := mdlabel.Read(own, k, len(own)); is {
		if slices.Contains(known, mdlabel.Fold(own[k+1:to-1])) {
			return to
		}
		return 0
	}
	to, is := mdlabel.Read(own, open-1, k)
	if !is || to != k || !slices.Contains(known, mdlabel.Fold(own[open:mid])) {
		return 0
	}
	if strings.HasPrefix(own[k:], "[]") {
		return k + 2
	}
	return k
}

// mentions are what Mentions tells, by the words alone.
func mentions(line string, from, end int) []string {
	var l []string
	for at := max(from, 0); from >= 0 && at < len(part(line, end)); at++ {
		if to, is := mdlabel.Read(line, at, end); is {
			l = append(l, mdlabel.Fold(line[at+1:to-1]))
		}
	}
	slices.Sort(l)
	return slices.Compact(l)
}

// holdModel holds all three calls of a part against what they tell by the words alone, and what follows; answered is how many links there are.
func holdModel(t *testing.T, line string, from, end int, known []string) int {
	t.Helper()
	to, is := mdlink.Target(line, from, end)
	if want, yes := target(line, from, end); to != want || is != yes {
		t.Fatalf("Target(%.200q, %d, %d) = %d, %v, not %d, %v", line, from, end, to, is, want, yes)
	}
	l := mdlink.Links(line, from, end, known)
	if want := links(line, from, end, known); !slices.Equal(l, want) {
		t.Fatalf("Links(%.200q, %d, %d, %q) = %v, not %v", line, from, end, known, l, want)
	}
	labels := mdlink.Mentions(line, from, end)
	if want := mentions(line, from, end); !slices.Equal(labels, want) {
		t.Fatalf("Mentions(%.200q, %d, %d) = %q, not %q", line, from, end, labels, want)
	}
	holdApart(t, line, l)
	for i, x := range l {
		if x.From < from || x.To > len(part(line, end)) || i > 0 && x.From <= l[i-1].From {
			t.Fatalf("Links(%.200q, %d, %d, %q) = %v", line, from, end, known, l)
		}
	}
	return len(l)
}

// holdApart holds that links and images lie within one another's texts, or apart, and no link within a link's text (P22.5).
func holdApart(t *testing.T, line string, l []mdlink.Link) {
	t.Helper()
	for i, x := range l {
		for _, y := range l[i+1:] {
			within := y.From >= x.Open && y.To <= x.Mid
			if !within && y.From < x.To || within && !x.Image && !y.Image {
				t.Fatalf("the links of %.200q are %v", line, l)
			}
		}
	}
}
