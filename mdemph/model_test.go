package mdemph_test

import (
	"slices"
	"strings"
	"testing"

	"indenture/mdemph"
)

// ended is a line without its end, and what is behind that.
func ended(line string) string {
	k := strings.IndexByte(line, 10)
	switch {
	case k < 0:
		return line
	case k > 0 && line[k-1] == 13:
		return line[:k-1]
	}
	return line[:k]
}

// class tells what a byte is: a gap (g), a mark (m), or a word's (w).
func class(c byte) string {
	switch {
	case strings.IndexByte("\t\n\v\f\r ", c) >= 0:
		return "g"
	case strings.IndexByte("!\"#$%&'()*+,-./:;<=>?@[\\]^_`{|}~", c) >= 0:
		return "m"
	}
	return "w"
}

// What a run does, by what stands ahead of it and behind it: it opens (o), closes (c), both (b), or neither (n).
var (
	stars = map[string]byte{"gg": 'n', "gm": 'o', "gw": 'o', "mg": 'c', "mm": 'b', "mw": 'o', "wg": 'c', "wm": 'c', "ww": 'b'}
	lows  = map[string]byte{"gg": 'n', "gm": 'o', "gw": 'o', "mg": 'c', "mm": 'b', "mw": 'o', "wg": 'c', "wm": 'c', "ww": 'n'}
)

// aRun is a run that does what is told: o, c, b or n.
func aRun(at, n int, char, does byte) mdemph.Run {
	return mdemph.Run{At: at, N: n, Char: char, Opens: does == 'o' || does == 'b', Closes: does == 'c' || does == 'b'}
}

// look is what Look tells, by the words alone.
func look(line string, from, at, end int) (mdemph.Run, bool) {
	own := ended(line)
	end = min(end, len(own))
	if from < 0 || at < from || at >= end {
		return mdemph.Run{}, false
	}
	part, k := own[from:end], at-from
	c := part[k]
	if c != '*' && c != '_' || k > 0 && part[k-1] == c {
		return mdemph.Run{}, false
	}
	n := len(part[k:]) - len(strings.TrimLeft(part[k:], string(c)))
	ahead, behind := "g", "g"
	if k > 0 {
		ahead = class(part[k-1])
	}
	if k+n < len(part) {
		behind = class(part[k+n])
	}
	table := stars
	if c == '_' {
		table = lows
	}
	return aRun(at, n, c, table[ahead+behind]), true
}

// holdLook holds the run at a place against what it is by the words alone, and answers whether there is one.
func holdLook(t *testing.T, line string, from, at, end int) bool {
	t.Helper()
	r, is := mdemph.Look(line, from, at, end)
	if want, yes := look(line, from, at, end); r != want || is != yes {
		t.Fatalf("Look(%.200q, %d, %d, %d) = %v, %v, not %v, %v", line, from, at, end, r, is, want, yes)
	}
	return is
}

// mayBe tells whether runs are such as may stand in a text.
func mayBe(l []mdemph.Run) bool {
	for i, r := range l {
		if r.N < 1 || r.At < 0 || r.Char != '*' && r.Char != '_' {
			return false
		}
		bound := 1 << 20
		if i+1 < len(l) {
			bound = l[i+1].At
		}
		// Both are bounded, and their sum is no more than an int holds.
		if r.At > 1<<20 || r.N > 1<<20 || r.At+r.N > bound {
			return false
		}
	}
	return true
}

// pairs are what Pairs tells, by the words alone.
func pairs(l []mdemph.Run) []mdemph.Pair {
	if !mayBe(l) {
		return nil
	}
	var told []mdemph.Pair
	left := make([][]int, len(l))
	barred := make([]bool, len(l))
	for i, r := range l {
		for k := range r.N {
			left[i] = append(left[i], r.At+k)
		}
	}
	for i, r := range l {
		for r.Closes && len(left[i]) > 0 {
			k := i - 1
			for k >= 0 && (barred[k] || len(left[k]) == 0 || !fits(l[k], r)) {
				k--
			}
			if k < 0 {
				break
			}
			n := 1
			if len(left[i]) > 1 && len(left[k]) > 1 {
				n = 2
			}
			first, second := left[k][len(left[k])-n:], left[i][:n]
			told = append(told, mdemph.Pair{From: first[0], To: second[n-1] + 1, Strong: n == 2})
			left[k], left[i] = left[k][:len(left[k])-n], left[i][n:]
			for j := k + 1; j < i; j++ {
				barred[j] = true
			}
		}
	}
	slices.SortFunc(told, func(a, b mdemph.Pair) int { return a.From - b.From })
	return told
}

// fits tells whether two runs fit.
func fits(first, second mdemph.Run) bool {
	if first.Char != second.Char || !first.Opens || !second.Closes {
		return false
	}
	if first.Closes || second.Opens {
		both := first.N%3 == 0 && second.N%3 == 0
		return both || (first.N+second.N)%3 > 0
	}
	return true
}

// holdPairs holds the pairs of runs against what they are by the words alone, and that they are told by rising From, lie within one another or apart, and take no byte twice; answered are they.
func holdPairs(t *testing.T, l []mdemph.Run) []mdemph.Pair {
	t.Helper()
	was := slices.Clone(l)
	got := mdemph.Pairs(l)
	if want := pairs(l); !slices.Equal(got, want) {
		t.Fatalf("Pairs(%v) = %v, not %v", l, got, want)
	}
	if !slices.Equal(l, was) {
		t.Fatalf("Pairs makes %v of %v", l, was)
	}
	signs := map[int]byte{}
	for _, r := range l {
		for k := range r.N {
			if len(got) == 0 {
				return nil
			}
			signs[r.At+k] = r.Char
		}
	}
	for i, p := range got {
		if i > 0 && p.From <= got[i-1].From {
			t.Fatalf("Pairs(%v) = %v: out of order", l, got)
		}
		for _, q := range got[:i] {
			if p.From < q.To && p.To > q.To {
				t.Fatalf("Pairs(%v) = %v: %v lies over the end of %v", l, got, p, q)
			}
		}
		holdTaken(t, p, signs)
	}
	return got
}

// holdTaken holds that a pair takes bytes that are left of runs of one Char, and takes them away.
func holdTaken(t *testing.T, p mdemph.Pair, signs map[int]byte) {
	t.Helper()
	n := 1
	if p.Strong {
		n = 2
	}
	char := signs[p.From]
	for k := range n {
		for _, at := range []int{p.From + k, p.To - 1 - k} {
			if signs[at] != char || char == 0 {
				t.Fatalf("%v takes the byte %d of none, of another run, or of another pair", p, at)
			}
			delete(signs, at)
		}
	}
}

// runs are the runs of a line, found one behind the other.
func runs(line string) []mdemph.Run {
	var l []mdemph.Run
	for at := 0; at < len(line); at++ {
		if r, is := mdemph.Look(line, 0, at, len(line)); is {
			l = append(l, r)
			at += r.N - 1
		}
	}
	return l
}
