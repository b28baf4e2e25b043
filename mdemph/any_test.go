package mdemph_test

import (
	"slices"
	"strings"
	"testing"

	"indenture/mdemph"
)

// pieces are what lines are made of.
var pieces = []string{
	" ", " ", "\t", "*", "*", "**", "***", "_", "_", "__", "___", "a", "a", "bc", ".", "(", ")", "[", "\\", "`", "\r", "\n", "\x00", "\x7f", "\xff", "\xc2\xa0",
}

// turn goes on to the next number of a row that looks unordered, and answers one from 0 to n - 1.
func turn(seed *uint64, n int) int {
	*seed = *seed*6364136223846793005 + 1442695040888963407
	return int(*seed >> 33 % uint64(n))
}

// anyLine is a line of pieces that mean something, or of few different ones.
func anyLine(seed *uint64) string {
	few := []string{pieces[turn(seed, len(pieces))], "*", "_", "a", " "}
	if turn(seed, 2) == 0 {
		few = pieces
	}
	var b strings.Builder
	for range turn(seed, 24) {
		b.WriteString(few[turn(seed, len(few))])
	}
	return b.String() + []string{"", "\n", "\r\n", "\n*"}[turn(seed, 4)]
}

// P21.1 to P21.3: whatever the line, at every place of a part.
func TestAnyLine(t *testing.T) {
	seed := uint64(21)
	count, strong := 0, 0
	for range 60000 {
		line := anyLine(&seed)
		from, end := turn(&seed, len(line)+2)-1, turn(&seed, len(line)+3)
		for at := -1; at <= len(line)+1; at++ {
			holdLook(t, line, 0, at, len(line))
			holdLook(t, line, from, at, end)
		}
		for _, p := range holdPairs(t, runs(line)) {
			count++
			if p.Strong {
				strong++
			}
		}
	}
	if count < 20000 || strong < 5000 {
		t.Errorf("%d pairs, %d of them strong: the lines try too little", count, strong)
	}
}

// lines are all lines of at most n of the bytes of letters.
func lines(letters string, n int) []string {
	all := []string{""}
	for from := 0; n > 0; n-- {
		to := len(all)
		for _, l := range all[from:to] {
			for i := range len(letters) {
				all = append(all, l+letters[i:i+1])
			}
		}
		from = to
	}
	return all
}

// P21.1 to P21.3: all lines of few bytes of those that mean something.
func TestShortLines(t *testing.T) {
	for _, x := range []struct {
		letters string
		n       int
	}{{"*a ", 9}, {"*_a", 8}, {"*_a .", 6}, {"*_(\n\r", 5}} {
		for _, line := range lines(x.letters, x.n) {
			for at := range len(line) {
				holdLook(t, line, 0, at, len(line))
			}
			holdPairs(t, runs(line))
		}
	}
}

// anyRuns are runs that stand in a text, or, now and then, in none.
func anyRuns(seed *uint64) []mdemph.Run {
	var l []mdemph.Run
	at := 0
	for range turn(seed, 14) {
		at += turn(seed, 3)
		r := aRun(at, 1+turn(seed, 3), "*_"[turn(seed, 2)], "ocbn"[turn(seed, 4)])
		if turn(seed, 4) == 0 {
			r.N += turn(seed, 7)
		}
		l = append(l, r)
		at += r.N
	}
	if len(l) > 0 && turn(seed, 9) == 0 {
		r := &l[turn(seed, len(l))]
		switch turn(seed, 3) {
		case 0:
			r.N = turn(seed, 9) - 2
		case 1:
			r.At += turn(seed, 5) - 2
		case 2:
			r.Char = byte(turn(seed, 256))
		}
	}
	return l
}

// P21.2, P21.3: whatever the runs.
func TestAnyRuns(t *testing.T) {
	seed := uint64(2)
	none, some := 0, 0
	for range 200000 {
		l := anyRuns(&seed)
		if len(holdPairs(t, l)) > 0 {
			some++
		} else if !mayBe(l) {
			none++
		}
	}
	if none < 2000 || some < 50000 {
		t.Errorf("%d lists of runs make pairs, %d are none: they try too little", some, none)
	}
}

// laid is text that is laid within signs, and the pairs that it is to make.
type laid struct {
	text  string
	pairs []mdemph.Pair
}

// put puts what is laid, or words, behind it.
func (l *laid) put(other laid) {
	for _, p := range other.pairs {
		l.pairs = append(l.pairs, mdemph.Pair{From: p.From + len(l.text), To: p.To + len(l.text), Strong: p.Strong})
	}
	l.text += other.text
}

// anyWord is a word.
func anyWord(seed *uint64) laid {
	return laid{text: []string{"a", "bc", "x1", "\xc3\xa9", "\xff", "d\x00"}[turn(seed, 6)]}
}

// anyLaid is what is laid within signs, so deep: a word at each sign, and words, or what is laid itself, between.
func anyLaid(seed *uint64, depth int) laid {
	sign := []string{"*", "**", "_", "__"}[turn(seed, 4)]
	l := laid{text: sign}
	l.put(anyWord(seed))
	for range turn(seed, 4) {
		l.put(laid{text: []string{" ", "  ", "\t"}[turn(seed, 3)]})
		if depth > 0 && turn(seed, 2) == 0 {
			l.put(anyLaid(seed, depth-1))
		} else {
			l.put(anyWord(seed))
		}
		l.put(laid{text: " "})
		l.put(anyWord(seed))
	}
	l.put(laid{text: sign})
	l.pairs = append(l.pairs, mdemph.Pair{From: 0, To: len(l.text), Strong: len(sign) == 2})
	return l
}

// P21.4: words that are laid within signs, one within another, each sign at a word, are pairs as they are laid.
func TestAnyLaid(t *testing.T) {
	seed := uint64(4)
	count := 0
	for range 20000 {
		var l laid
		for range 1 + turn(&seed, 3) {
			l.put(anyLaid(&seed, 4))
			l.put(laid{text: " "})
		}
		slices.SortFunc(l.pairs, func(a, b mdemph.Pair) int { return a.From - b.From })
		if got := holdPairs(t, runs(l.text)); !slices.Equal(got, l.pairs) {
			t.Fatalf("of %q the pairs are %s, not %s", l.text, told(got), told(l.pairs))
		}
		count += len(l.pairs)
	}
	if count < 60000 {
		t.Errorf("%d pairs are laid: too few", count)
	}
}

// R1: as many runs as a text may have.
func TestManyRuns(t *testing.T) {
	for _, does := range []string{"o", "b", "oc", "bo", "bc", "ooooc"} {
		for _, signs := range []string{"*", "*_", "*__"} {
			for n := 1; n < 3; n++ {
				var l []mdemph.Run
				for i := 0; (i+1)*n <= most; i++ {
					l = append(l, aRun(i*n, n, signs[i%len(signs)], does[i%len(does)]))
				}
				mdemph.Pairs(l)
			}
		}
	}
	half := make([]mdemph.Run, 0, most)
	for i := range most {
		half = append(half, aRun(i, 1, '*', "oc"[i*2/most]))
	}
	if got := mdemph.Pairs(half); len(got) != most/2 || got[0] != (mdemph.Pair{From: 0, To: most}) {
		t.Errorf("%d pairs", len(got))
	}
	if got := mdemph.Pairs([]mdemph.Run{aRun(0, most/2, '*', 'o'), aRun(most/2, most/2, '*', 'c')}); len(got) != most/4 || !got[0].Strong {
		t.Errorf("%d pairs", len(got))
	}
	line := strings.Repeat("*", most+9) + "a"
	if r, is := mdemph.Look(line, 0, 0, len(line)); !is || r != aRun(0, most+9, '*', 'o') {
		t.Errorf("Look tells %v, %v", r, is)
	}
}
