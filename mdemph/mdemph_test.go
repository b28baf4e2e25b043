package mdemph_test

import (
	"math"
	"slices"
	"strconv"
	"strings"
	"testing"

	"indenture/api"
	"indenture/mdemph"
)

const most = api.MaxText

// hold holds the run at a place, which does what is told: opens (o), closes (c), both (b), neither (n); of N 0 there is none.
func hold(t *testing.T, line string, from, at, end int, n int, does byte) {
	t.Helper()
	want := mdemph.Run{}
	if n > 0 {
		want = aRun(at, n, line[at], does)
	}
	if r, is := mdemph.Look(line, from, at, end); r != want || is != (n > 0) {
		t.Errorf("Look(%.99q, %d, %d, %d) = %v, %v, not %v", line, from, at, end, r, is, want)
	}
}

// told tells pairs: "0 3, 4 9 strong".
func told(l []mdemph.Pair) string {
	var s []string
	for _, p := range l {
		x := strconv.Itoa(p.From) + " " + strconv.Itoa(p.To)
		if p.Strong {
			x += " strong"
		}
		s = append(s, x)
	}
	return strings.Join(s, ", ")
}

// holdLine holds the pairs that the runs of a line make.
func holdLine(t *testing.T, line, want string) {
	t.Helper()
	for _, end := range []string{"", "\n", "\r\n", "\n*a*", "\r\n_"} {
		if l := holdPairs(t, runs(line+end)); told(l[:min(len(l), len(pairs(runs(line))))]) != want {
			t.Errorf("of %q the pairs are %s, not %s", line+end, told(l), want)
		}
	}
}

// P21.1, P21.2: the chapter's examples.
func TestExamples(t *testing.T) {
	hold(t, "*a*", 0, 0, 3, 1, 'o')
	hold(t, "*a*", 0, 2, 3, 1, 'c')
	for line, want := range map[string]string{
		"*a*":         "0 3",
		"**a**":       "0 5 strong",
		"**a*":        "1 4",
		"*a**":        "0 3",
		"***a***":     "0 7, 1 6 strong",
		"a_b_c":       "",
		"a*b*c":       "1 4",
		"*a **b* c**": "0 11, 3 10, 4 7",
		"*a **b** c*": "0 11, 3 8 strong",
		"*a**b*":      "0 6",
		"a* b*":       "",
	} {
		holdLine(t, line, want)
	}
}

// P21.1: places at which no run begins.
func TestNoRun(t *testing.T) {
	const line = "a**b_\n*c*"
	for _, x := range []struct{ from, at, end int }{
		{-1, 1, 5}, {math.MinInt, 1, 5}, {0, -1, 5}, {0, 0, 5}, {0, 3, 5}, {0, 2, 5}, {2, 1, 5}, {0, 1, 1}, {0, 1, 0}, {0, 1, -1}, {0, 1, math.MinInt}, {0, 5, 9}, {0, 6, 9}, {6, 6, 9}, {8, 8, 9}, {0, 9, 99}, {0, math.MaxInt, math.MaxInt}, {math.MaxInt, math.MaxInt, math.MaxInt}, {0, math.MinInt, 9}, {9, 9, 9},
	} {
		hold(t, line, x.from, x.at, x.end, 0, 0)
	}
	hold(t, "", 0, 0, 0, 0, 0)
	hold(t, "", 0, 0, 9, 0, 0)
	hold(t, line, 0, 1, 5, 2, 'b')
	hold(t, line, 1, 1, 5, 2, 'o')
	hold(t, line, 0, 1, math.MaxInt, 2, 'b')
	// Where the part begins within a row of signs, a run begins.
	hold(t, line, 2, 2, 5, 1, 'o')
	hold(t, "***", 1, 1, 3, 2, 'n')
	hold(t, "***", 1, 2, 3, 0, 0)
	hold(t, "*_*", 0, 1, 3, 1, 'b')
	hold(t, "_*_", 0, 1, 3, 1, 'b')
}

// P21.1: a run goes as far as its sign, the part, and the line.
func TestHowFar(t *testing.T) {
	for n := 1; n < 6; n++ {
		for _, c := range []string{"*", "_"} {
			row := strings.Repeat(c, n)
			hold(t, row+"a", 0, 0, n+1, n, 'o')
			hold(t, "a"+row, 0, 1, n+1, n, 'c')
			hold(t, "a"+row+"\n", 0, 1, n+1, n, 'c')
			hold(t, "a"+row+"\n"+row, 0, 1, 99, n, 'c')
			hold(t, "a"+row+"\r\nb", 0, 1, 99, n, 'c')
			hold(t, row, 0, 0, n, n, 'n')
			for end := 1; end < n; end++ {
				hold(t, row+"a", 0, 0, end, end, 'n')
				hold(t, " "+row+"a", 0, 1, end+1, end, 'n')
				hold(t, "a"+row+"a", 0, 1, end+1, end, 'c')
			}
		}
	}
}

// P21.1: what a run does, by what stands ahead of it and behind it, whichever bytes these are.
func TestEachNeighbour(t *testing.T) {
	for _, c := range []string{"*", "_", "**", "___"} {
		for a := range 256 {
			for b := range 256 {
				ahead, behind := string([]byte{byte(a)}), string([]byte{byte(b)})
				line := ahead + c + behind + "x"
				if ahead == c[:1] || behind == c[:1] {
					continue
				}
				is := holdLook(t, line, 0, 1, len(line))
				holdLook(t, line, 1, 1, len(line))
				holdLook(t, line, 0, 1, 1+len(c))
				if is == (a == 10) {
					t.Fatalf("of %q there is a run: %v", line, is)
				}
			}
		}
	}
}

// P21.1: both signs, between a gap, a mark and a word.
func TestWhatRunsDo(t *testing.T) {
	for _, x := range []struct {
		ahead, behind string
		star, low     byte
	}{
		{" ", " ", 'n', 'n'}, {" ", ".", 'o', 'o'}, {" ", "a", 'o', 'o'},
		{"(", " ", 'c', 'c'}, {"(", ")", 'b', 'b'}, {"(", "a", 'o', 'o'},
		{"a", " ", 'c', 'c'}, {"a", ".", 'c', 'c'}, {"a", "b", 'b', 'n'},
		{"\t", "a", 'o', 'o'}, {"\v", "a", 'o', 'o'}, {"\f", "a", 'o', 'o'}, {"\r", "a", 'o', 'o'}, {"a", "\r", 'c', 'c'},
		{"\xa0", "a", 'b', 'n'}, {"\xff", "\x00", 'b', 'n'}, {"\x7f", "a", 'b', 'n'}, {"\x08", "a", 'b', 'n'}, {"\x0e", "a", 'b', 'n'}, {"0", "9", 'b', 'n'},
		{"_", "a", 'o', 0}, {"a", "_", 'c', 0}, {"*", "a", 0, 'o'}, {"a", "*", 0, 'c'},
	} {
		if x.star != 0 {
			hold(t, x.ahead+"*"+x.behind, 0, 1, 3, 1, x.star)
			hold(t, x.ahead+"**"+x.behind+"\n", 0, 1, 9, 2, x.star)
		}
		if x.low != 0 {
			hold(t, x.ahead+"_"+x.behind, 0, 1, 3, 1, x.low)
			hold(t, x.ahead+"__"+x.behind+"\n", 0, 1, 9, 2, x.low)
		}
	}
	// What is out of the part counts as a gap.
	hold(t, "(*)", 1, 1, 3, 1, 'o')
	hold(t, "(*)", 0, 1, 2, 1, 'c')
	hold(t, "(_)", 1, 1, 3, 1, 'o')
	hold(t, "(_)", 0, 1, 2, 1, 'c')
	hold(t, "a*b", 1, 1, 2, 1, 'n')
}

// P21.2: which signs belong together.
func TestLines(t *testing.T) {
	for line, want := range map[string]string{
		"":                        "",
		"a":                       "",
		"*":                       "",
		"**":                      "",
		"* a *":                   "",
		"_a_ *b*":                 "0 3, 4 7",
		"__a__":                   "0 5 strong",
		"*_a_*":                   "0 5, 1 4",
		"_*a*_":                   "0 5, 1 4",
		"*a_b*c_":                 "0 5",
		"_a *b_ c*":               "0 6",
		"*a _b* c_ d*":            "0 6",
		"**a*b*c**":               "0 9 strong, 3 6",
		"*a*b*":                   "0 3",
		"*a* *b*":                 "0 3, 4 7",
		"*a *b* c*":               "0 9, 3 6",
		"**a **b** c**":           "0 13 strong, 4 9 strong",
		"****a****":               "0 9 strong, 2 7 strong",
		"*****a*****":             "0 11, 1 10 strong, 3 8 strong",
		"***a** b*":               "0 9, 1 6 strong",
		"***a* b**":               "0 9 strong, 2 5",
		"**a* b*":                 "0 7, 1 4",
		"*a **b***":               "0 9, 3 8 strong",
		"**a *b***":               "0 9 strong, 4 7",
		"*a**b**c*":               "0 9, 2 7 strong",
		"**a*b**":                 "0 7 strong",
		"a***b***c":               "1 8, 2 7 strong",
		"a******b*********c":      "1 14 strong, 3 12 strong, 5 10 strong",
		"*a***":                   "0 3",
		"***a*":                   "2 5",
		"_a_b_":                   "0 5",
		"_(a)_.":                  "0 5",
		"a_(b)_":                  "",
		"a*(b)*":                  "",
		"*(*a*)*":                 "0 7, 2 5",
		"_(_a_)_":                 "0 7, 2 5",
		"*a\xff*":                 "0 4",
		"*a\x00* _b\t_":           "0 4",
		"*a *":                    "",
		"*a * b*":                 "0 7",
		"**a**b":                  "0 5 strong",
		"__a__b":                  "",
		"*a*_b_*c*":               "0 3, 3 6, 6 9",
		"*a [*] b*":               "0 5",
		"*** a":                   "",
		"*a**b* c**d*":            "0 6",
		"*a* b**":                 "0 3",
		"_a*b_c*d_":               "0 9, 2 7",
		"*a*** b**":               "0 3",
		"**a**** b**":             "0 5 strong",
		"*a _b **c __d__ e** f_*": "0 23, 3 22, 6 19 strong, 10 15 strong",
	} {
		holdLine(t, line, want)
	}
}

// P21.2: runs that stand in no text: no pairs.
func TestNoRuns(t *testing.T) {
	good := []mdemph.Run{aRun(0, 1, '*', 'o'), aRun(2, 2, '_', 'o'), aRun(5, 2, '_', 'c'), aRun(8, 1, '*', 'c')}
	if l := holdPairs(t, good); told(l) != "0 9, 2 7 strong" {
		t.Errorf("the pairs are %s", told(l))
	}
	for _, turn := range []func(*mdemph.Run){
		func(r *mdemph.Run) { r.N = 0 },
		func(r *mdemph.Run) { r.N = -1 },
		func(r *mdemph.Run) { r.N = math.MinInt },
		func(r *mdemph.Run) { r.N = math.MaxInt },
		func(r *mdemph.Run) { r.N = most + 1 },
		func(r *mdemph.Run) { r.At = -1 },
		func(r *mdemph.Run) { r.At = math.MinInt },
		func(r *mdemph.Run) { r.At = math.MaxInt },
		func(r *mdemph.Run) { r.At = most },
		func(r *mdemph.Run) { r.At, r.N = math.MaxInt, math.MaxInt },
		func(r *mdemph.Run) { r.Char = 0 },
		func(r *mdemph.Run) { r.Char = '-' },
		func(r *mdemph.Run) { r.Char = '*' + 1 },
		func(r *mdemph.Run) { r.Char = '_' + 1 },
	} {
		for i := range good {
			l := slices.Clone(good)
			turn(&l[i])
			if got := holdPairs(t, l); len(got) != 0 {
				t.Errorf("Pairs(%v) = %v", l, got)
			}
		}
	}
	for _, l := range [][]mdemph.Run{
		{aRun(3, 2, '*', 'o'), aRun(4, 1, '*', 'c')},
		{aRun(3, 2, '*', 'o'), aRun(0, 1, '*', 'c')},
		{aRun(0, 1, '*', 'o'), aRun(2, 1, '*', 'c'), aRun(2, 1, '*', 'c')},
		{aRun(0, 1, '*', 'o'), aRun(most, 1, '*', 'c')},
		{aRun(0, 1, '*', 'o'), aRun(most-1, 2, '*', 'c')},
		{aRun(0, 1, '*', 'o'), aRun(5, math.MaxInt, '*', 'n'), aRun(9, 1, '*', 'c')},
	} {
		if got := holdPairs(t, l); len(got) != 0 {
			t.Errorf("Pairs(%v) = %v", l, got)
		}
	}
	// Runs that stand as close as may be, and as far.
	if l := holdPairs(t, []mdemph.Run{aRun(0, 2, '*', 'o'), aRun(2, 2, '*', 'c')}); told(l) != "0 4 strong" {
		t.Errorf("the pairs are %s", told(l))
	}
	if l := holdPairs(t, []mdemph.Run{aRun(0, 1, '*', 'o'), aRun(most-1, 1, '*', 'c')}); told(l) != "0 1048576" {
		t.Errorf("the pairs are %s", told(l))
	}
	holdPairs(t, nil)
	holdPairs(t, []mdemph.Run{})
}

// P21.2: bytes that are left, by twos and ones, and runs that are barred.
func TestRuns(t *testing.T) {
	for _, x := range []struct {
		want string
		l    []mdemph.Run
	}{
		{"3 6", []mdemph.Run{aRun(0, 4, '*', 'o'), aRun(5, 1, '*', 'c')}},
		{"2 7 strong", []mdemph.Run{aRun(0, 4, '*', 'o'), aRun(5, 2, '*', 'c')}},
		{"1 8, 2 7 strong", []mdemph.Run{aRun(0, 4, '*', 'o'), aRun(5, 3, '*', 'c')}},
		{"0 9 strong, 2 7 strong", []mdemph.Run{aRun(0, 4, '_', 'b'), aRun(5, 4, '_', 'b')}},
		{"0 7, 3 6", []mdemph.Run{aRun(0, 1, '*', 'o'), aRun(3, 1, '*', 'o'), aRun(5, 4, '*', 'c')}},
		{"0 8 strong, 3 6", []mdemph.Run{aRun(0, 2, '*', 'o'), aRun(3, 1, '*', 'o'), aRun(5, 4, '*', 'c')}},
		// What stands between a pair is barred.
		{"0 6", []mdemph.Run{aRun(0, 1, '*', 'o'), aRun(2, 1, '_', 'o'), aRun(5, 1, '*', 'c'), aRun(7, 1, '_', 'c')}},
		{"0 9, 2 6", []mdemph.Run{aRun(0, 1, '*', 'o'), aRun(2, 1, '_', 'o'), aRun(3, 1, '*', 'n'), aRun(5, 1, '_', 'c'), aRun(8, 1, '*', 'c')}},
		{"0 9 strong", []mdemph.Run{aRun(0, 2, '*', 'o'), aRun(3, 1, '*', 'b'), aRun(7, 2, '*', 'c')}},
		{"1 5", []mdemph.Run{aRun(0, 2, '*', 'o'), aRun(2, 1, '_', 'o'), aRun(4, 1, '*', 'c'), aRun(7, 1, '_', 'c')}},
		// What closes first may open with what is left; what neither opens nor closes does nothing.
		{"0 4, 5 8", []mdemph.Run{aRun(0, 1, '*', 'o'), aRun(3, 3, '*', 'b'), aRun(7, 1, '*', 'c')}},
		{"4 7", []mdemph.Run{aRun(0, 1, '*', 'n'), aRun(2, 1, '*', 'c'), aRun(4, 1, '*', 'o'), aRun(6, 1, '*', 'c'), aRun(8, 1, '*', 'c')}},
		// Which fit, by how many bytes they have.
		{"0 6 strong", []mdemph.Run{aRun(0, 2, '_', 'o'), aRun(4, 2, '_', 'b')}},
		{"", []mdemph.Run{aRun(0, 1, '_', 'o'), aRun(4, 2, '_', 'b')}},
		{"", []mdemph.Run{aRun(0, 2, '_', 'b'), aRun(4, 1, '_', 'c')}},
		{"1 5", []mdemph.Run{aRun(0, 2, '_', 'o'), aRun(4, 1, '_', 'c')}},
		{"0 8, 1 7 strong", []mdemph.Run{aRun(0, 3, '_', 'b'), aRun(5, 3, '_', 'b')}},
		{"0 9, 1 8 strong", []mdemph.Run{aRun(0, 3, '_', 'o'), aRun(6, 6, '_', 'b')}},
		{"", []mdemph.Run{aRun(0, 4, '*', 'b'), aRun(5, 5, '*', 'c')}},
		{"0 9", []mdemph.Run{aRun(0, 1, '*', 'o'), aRun(4, 2, '*', 'b'), aRun(8, 1, '*', 'c')}},
		{"1 6", []mdemph.Run{aRun(0, 2, '*', 'o'), aRun(3, 1, '_', 'o'), aRun(5, 1, '*', 'c'), aRun(7, 1, '_', 'c')}},
		{"", []mdemph.Run{aRun(0, 1, '*', 'o'), aRun(4, 1, '_', 'c')}},
		{"", []mdemph.Run{aRun(0, 1, '*', 'c'), aRun(4, 1, '*', 'o')}},
		{"", []mdemph.Run{aRun(0, 1, '*', 'c'), aRun(4, 1, '*', 'c')}},
		{"", []mdemph.Run{aRun(0, 1, '*', 'o'), aRun(4, 1, '*', 'o')}},
		// One that found none, and one of another kind behind it that finds one.
		{"0 8", []mdemph.Run{aRun(0, 1, '*', 'o'), aRun(3, 2, '*', 'b'), aRun(7, 1, '*', 'c')}},
		{"0 7, 7 11", []mdemph.Run{aRun(0, 1, '*', 'b'), aRun(3, 2, '*', 'c'), aRun(6, 1, '*', 'c'), aRun(7, 1, '*', 'o'), aRun(10, 1, '*', 'c')}},
	} {
		if got := holdPairs(t, x.l); told(got) != x.want {
			t.Errorf("the pairs of %v are %s, not %s", x.l, told(got), x.want)
		}
	}
}

// R3: what is told is new memory: what is written there is in no other answer.
func TestNewMemory(t *testing.T) {
	l := runs("*a **b** _c_*")
	got := mdemph.Pairs(l)
	want := told(got)
	for i := range got[:cap(got)] {
		got[:cap(got)][i] = mdemph.Pair{From: 99}
	}
	if now := told(mdemph.Pairs(l)); now != want {
		t.Errorf("Pairs tells %s, and then %s", want, now)
	}
}
