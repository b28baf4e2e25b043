package place_test

import (
	"math"
	"slices"
	"strings"
	"testing"

	"indenture/api"
	"indenture/place"
	"indenture/rope"
)

// far are numbers that are no place, line, column or character of any text.
var far = []int{math.MinInt, math.MinInt + 1, -1 << 32, -api.MaxText, -2, -1, api.MaxText + 1, 1 << 32, 1 << 62, 1<<62 + 1, math.MaxInt - 1, math.MaxInt}

// turn goes on to the next number of a row that looks unordered, and answers one from 0 to n - 1.
func turn(seed *uint64, n int) int {
	*seed = *seed*6364136223846793005 + 1442695040888963407
	return int(*seed >> 33 % uint64(n))
}

// of is a rope of a text that may be.
func of(t *testing.T, s string) *rope.Rope {
	t.Helper()
	r := rope.Of(s)
	if r == nil {
		t.Fatalf("Of a text of %d bytes = nil", len(s))
	}
	return r
}

// splice is the rope that comes of an edit that may be.
func splice(t *testing.T, r *rope.Rope, pos, del int, ins string) *rope.Rope {
	t.Helper()
	n, err := r.Splice(api.Edit{Pos: pos, Del: del, Ins: ins})
	if err != api.OK || n == nil {
		t.Fatalf("Splice(%d, %d, %d bytes) of %d bytes = %v, %v", pos, del, len(ins), r.Len(), n, err)
	}
	return n
}

// row is a line of a text, as the text itself shows it: where it begins, its bytes without its LF, and where each step of these begins, and the last one ends.
type row struct {
	from   int
	bare   string
	starts []int
}

// rows are the lines of s.
func rows(s string) []row {
	var all []row
	from := 0
	for _, bare := range strings.Split(s, "\n") {
		x := row{from: from, bare: bare}
		for i := range bare {
			x.starts = append(x.starts, from+i)
		}
		from += len(bare)
		x.starts = append(x.starts, from)
		all = append(all, x)
		from++
	}
	return all
}

// where is what Of and Char tell of a place.
type where struct{ line, col, char int }

// wheres has, by its places, what is told of each place of s: a line's end is a place of it, and so is one within a character.
func wheres(s string) []where {
	var all []where
	for k, x := range rows(s) {
		for col := range len(x.bare) + 1 {
			char, _ := slices.BinarySearch(x.starts, x.from+col)
			all = append(all, where{k, col, char})
		}
	}
	return all
}

// at holds what is told of a place against what is wanted.
func at(t *testing.T, r *rope.Rope, offset int, want where) {
	t.Helper()
	line, col, err := place.Of(r, offset)
	if line != want.line || col != want.col || err != api.OK {
		t.Fatalf("Of(%d) = %d, %d, %v, not %d, %d", offset, line, col, err, want.line, want.col)
	}
	char, err := place.Char(r, offset)
	if char != want.char || err != api.OK {
		t.Fatalf("Char(%d) = %d, %v, not %d", offset, char, err, want.char)
	}
}

// noPlace tells that a number is refused as a place so.
func noPlace(t *testing.T, r *rope.Rope, offset int, want api.Errno) {
	t.Helper()
	if line, col, err := place.Of(r, offset); line != 0 || col != 0 || err != want {
		t.Fatalf("Of(%d) = %d, %d, %v, not %v", offset, line, col, err, want)
	}
	if char, err := place.Char(r, offset); char != 0 || err != want {
		t.Fatalf("Char(%d) = %d, %v, not %v", offset, char, err, want)
	}
}

// column holds the place of a line and column against what is wanted.
func column(t *testing.T, r *rope.Rope, line, col, want int, fault api.Errno) {
	t.Helper()
	if got, err := place.Offset(r, line, col); got != want || err != fault {
		t.Fatalf("Offset(%d, %d) = %d, %v, not %d, %v", line, col, got, err, want, fault)
	}
}

// character holds the place of a line and character against what is wanted.
func character(t *testing.T, r *rope.Rope, line, char, want int, fault api.Errno) {
	t.Helper()
	if got, err := place.CharOffset(r, line, char); got != want || err != fault {
		t.Fatalf("CharOffset(%d, %d) = %d, %v, not %d, %v", line, char, got, err, want, fault)
	}
}

// neither tells that a number is refused so, as a column and as a character of a line.
func neither(t *testing.T, r *rope.Rope, line, n int, want api.Errno) {
	t.Helper()
	column(t, r, line, n, 0, want)
	character(t, r, line, n, 0, want)
}

// line holds the places of all columns and characters of one line, and of numbers that are none, against what is wanted.
func line(t *testing.T, r *rope.Rope, k int, x row) {
	t.Helper()
	for col := range len(x.bare) + 1 {
		column(t, r, k, col, x.from+col, api.OK)
	}
	for char, from := range x.starts {
		character(t, r, k, char, from, api.OK)
	}
	for n := range 6 {
		column(t, r, k, len(x.bare)+1+n, 0, api.ErrRange)
		character(t, r, k, len(x.starts)+n, 0, api.ErrRange)
	}
	for _, n := range far {
		neither(t, r, k, n, api.ErrRange)
	}
}

// all holds everything that is told of a short text against s.
func all(t *testing.T, r *rope.Rope, s string) {
	t.Helper()
	for offset, want := range wheres(s) {
		at(t, r, offset, want)
	}
	lines := rows(s)
	for k, x := range lines {
		line(t, r, k, x)
	}
	for _, n := range append([]int{len(s) + 1, len(s) + 2}, far...) {
		noPlace(t, r, n, api.ErrRange)
	}
	for _, k := range append([]int{len(lines), len(lines) + 1}, far...) {
		for _, n := range append([]int{0, 1}, far...) {
			neither(t, r, k, n, api.ErrRange)
		}
	}
	if r.Text() != s {
		t.Fatalf("%q is another text now", s)
	}
}

// some holds what is told of a few places and lines of a long text against s.
func some(t *testing.T, r *rope.Rope, s string, seed *uint64) {
	t.Helper()
	places, lines := wheres(s), rows(s)
	for _, offset := range []int{0, len(s), turn(seed, len(s)+1), turn(seed, len(s)+1), turn(seed, len(s)+1)} {
		at(t, r, offset, places[offset])
	}
	noPlace(t, r, len(s)+1, api.ErrRange)
	for _, k := range []int{0, len(lines) - 1, turn(seed, len(lines))} {
		x := lines[k]
		n := turn(seed, len(x.starts))
		character(t, r, k, n, x.starts[n], api.OK)
		character(t, r, k, len(x.starts)-1, x.from+len(x.bare), api.OK)
		character(t, r, k, len(x.starts), 0, api.ErrRange)
		column(t, r, k, len(x.bare), x.from+len(x.bare), api.OK)
		column(t, r, k, len(x.bare)+1, 0, api.ErrRange)
	}
	neither(t, r, len(lines), 0, api.ErrRange)
}

// texts are short texts with and without LFs, characters of all lengths, whole and broken.
func texts() []string {
	return []string{
		"", "a", "ab", "\n", "\n\n\n", "a\nbc", "a\nbc\n", "\na", "no line ends here", "ends in one\n", "a\n\nb\n\n",
		"\x00\xff", "\r\n\r", "a\r\n\r\nb", "a\n\xc3\xa9b", "\xc3\xa9", "\xe2\x82\xac", "\xf0\x9f\x98\x80",
		"\xc3\xa9\n\xe2\x82\xac\xf0\x9f\x98\x80", "\xf0\x9f\x98\x80\xf0\x9f\x98\x80\n\xf0\x9f\x98\x80\n", "a\xc3\xa9\xe2\x82\xac\xf0\x9f\x98\x80b\n",
		"\xc3\n\xa9", "\xe2\x82", "\xe2\x82\n\xac", "\xf0\x9f\x98\n\x80", "\xf0\x9f\x98", "\x80\x80\x80\x80", "\x80\xc3\xa9\xa9\n\xff\xff",
		"\xf0\x9f\x98\xc3\xa9", "\xc0\x80\xed\xa0\x80\xf4\x90\x80\x80\n", "\xe2\xe2\x82\xac\x82", "\xf0\xf0\x9f\x98\x80\x80\n\xc3\xc3\xa9",
	}
}

// long is a text of n bytes with lines of many lengths, and characters that end nowhere in particular.
func long(n int) string {
	var b strings.Builder
	for i := 0; b.Len() < n; i++ {
		b.WriteString(strings.Repeat("ab\xc3\xa9\xe2\x82\xac\xf0\x9f\x98\x80\xff", i%7))
		b.WriteString(strings.Repeat("\n", i%3))
		if i%50 == 0 {
			b.WriteString(strings.Repeat("x\xe2\x82\xac", 700))
		}
	}
	return b.String()[:n]
}

// P3.1, P3.2: the examples of the chapter.
func TestExamples(t *testing.T) {
	r := of(t, "a\n\xc3\xa9b")
	for offset, want := range map[int]where{1: {0, 1, 1}, 2: {1, 0, 0}, 3: {1, 1, 1}, 4: {1, 2, 1}, 5: {1, 3, 2}} {
		at(t, r, offset, want)
	}
	noPlace(t, r, 6, api.ErrRange)
	column(t, r, 0, 1, 1, api.OK)
	column(t, r, 0, 2, 0, api.ErrRange)
	column(t, r, 1, 3, 5, api.OK)
	column(t, r, 2, 0, 0, api.ErrRange)
	character(t, r, 1, 1, 4, api.OK)
	character(t, r, 1, 3, 0, api.ErrRange)
}

// P3.1, P3.2: no rope is told ahead of a number that is out of bounds.
func TestNoRope(t *testing.T) {
	for _, x := range append([]int{0, 1}, far...) {
		noPlace(t, nil, x, api.ErrNil)
		for _, n := range append([]int{0, 1}, far...) {
			neither(t, nil, x, n, api.ErrNil)
		}
	}
}

// P3.1, P3.2: an empty text has one place, and one line with one column and one character.
func TestEmptyText(t *testing.T) {
	for _, r := range []*rope.Rope{of(t, ""), splice(t, of(t, "a\nb"), 0, 3, "")} {
		at(t, r, 0, where{})
		column(t, r, 0, 0, 0, api.OK)
		character(t, r, 0, 0, 0, api.OK)
		noPlace(t, r, 1, api.ErrRange)
		neither(t, r, 0, 1, api.ErrRange)
		neither(t, r, 0, -1, api.ErrRange)
		neither(t, r, 1, 0, api.ErrRange)
		neither(t, r, -1, 0, api.ErrRange)
	}
}

// P3.1, P3.2: the place at an LF is its line's last one, and the place behind it the next line's first one, though the text ends there.
func TestAboutLineEnds(t *testing.T) {
	r := of(t, "ab\n\n\xc3\xa9\n")
	for offset, want := range []where{{0, 0, 0}, {0, 1, 1}, {0, 2, 2}, {1, 0, 0}, {2, 0, 0}, {2, 1, 1}, {2, 2, 1}, {3, 0, 0}} {
		at(t, r, offset, want)
	}
	column(t, r, 0, 2, 2, api.OK)
	character(t, r, 0, 2, 2, api.OK)
	neither(t, r, 0, 3, api.ErrRange)
	column(t, r, 1, 0, 3, api.OK)
	character(t, r, 1, 0, 3, api.OK)
	neither(t, r, 1, 1, api.ErrRange)
	column(t, r, 2, 2, 6, api.OK)
	character(t, r, 2, 1, 6, api.OK)
	column(t, r, 2, 3, 0, api.ErrRange)
	character(t, r, 2, 2, 0, api.ErrRange)
	column(t, r, 3, 0, 7, api.OK)
	character(t, r, 3, 0, 7, api.OK)
	neither(t, r, 3, 1, api.ErrRange)
	neither(t, r, 4, 0, api.ErrRange)
}

// P3.1, P3.2: a byte 13 ahead of an LF is a byte of its line as others are.
func TestReturnsAreBytes(t *testing.T) {
	r := of(t, "a\r\nb\r")
	at(t, r, 2, where{0, 2, 2})
	at(t, r, 5, where{1, 2, 2})
	column(t, r, 0, 2, 2, api.OK)
	character(t, r, 0, 2, 2, api.OK)
	neither(t, r, 0, 3, api.ErrRange)
	neither(t, r, 1, 3, api.ErrRange)
}

// P3.2: a place within a character has the character that the next step has, and lone bytes are steps.
func TestPlacesWithinCharacters(t *testing.T) {
	for s, want := range map[string][]int{
		"\xc3\xa9b":                {0, 1, 1, 2},
		"\xe2\x82\xac":             {0, 1, 1, 1},
		"\xf0\x9f\x98\x80a":        {0, 1, 1, 1, 1, 2},
		"\xf0\x9f\x98\x80\xc3\xa9": {0, 1, 1, 1, 1, 2, 2},
		"\xf0\x9f\x98":             {0, 1, 2, 3},
		"\x80\x80\xc3":             {0, 1, 2, 3},
		"\xe2\x82\xc3\xa9":         {0, 1, 2, 3, 3},
		"\xc3\n\xa9":               {0, 1, 0, 1},
	} {
		r := of(t, s)
		for offset, char := range want {
			if got, err := place.Char(r, offset); got != char || err != api.OK {
				t.Errorf("Char(%d) of %q = %d, %v, not %d", offset, s, got, err, char)
			}
		}
	}
}

// P3.1, P3.2: short texts, at all of their places, lines, columns and characters, and beyond.
func TestShortTexts(t *testing.T) {
	for _, s := range texts() {
		all(t, of(t, s), s)
	}
}

// P3.1, P3.2: ropes that came of edits, with characters that edits cut and put together; each rope tells its own text still.
func TestRopesOfEdits(t *testing.T) {
	seed := uint64(1)
	odd := []string{"\xf0", "\x9f\x98", "\x80", "\xe2\x82", "\xac", "\xc3", "\xa9", "a", "\n", "b\nc", "\xff", "", "\xf0\x9f\x98\x80\n"}
	for _, s := range texts() {
		r := of(t, s)
		for range 60 {
			old, was := r, s
			pos := turn(&seed, len(s)+1)
			del := turn(&seed, min(4, len(s)-pos)+1)
			ins := odd[turn(&seed, len(odd))]
			r, s = splice(t, r, pos, del, ins), s[:pos]+ins+s[pos+del:]
			all(t, r, s)
			all(t, old, was)
		}
	}
}

// P3.1, P3.2: a text of pieces, put together out of order, with lines and characters that go from one piece into the next.
func TestLongRopesOfEdits(t *testing.T) {
	seed := uint64(2)
	s := long(20000)
	r := of(t, s)
	for range 300 {
		pos := turn(&seed, len(s)+1)
		del := turn(&seed, min(700, len(s)-pos)+1)
		ins := long(9000)[turn(&seed, 8000):][:turn(&seed, 900)]
		r, s = splice(t, r, pos, del, ins), s[:pos]+ins+s[pos+del:]
		some(t, r, s, &seed)
	}
	for offset, want := range wheres(s) {
		at(t, r, offset, want)
	}
}

// P3.1, P3.2: the longest text, of many lines, of one, and of LFs alone.
func TestLongestText(t *testing.T) {
	seed := uint64(3)
	for _, s := range []string{
		long(api.MaxText), strings.Repeat("\n", api.MaxText), strings.Repeat("x", api.MaxText), strings.Repeat("\xf0\x9f\x98\x80", api.MaxText/4),
		strings.Repeat("\x80", api.MaxText-1) + "\n", strings.Repeat("\xe2\x82\xac", api.MaxText/3),
	} {
		some(t, of(t, s), s, &seed)
	}
}

// P3.3: of each place, the line and column tell it again, and the line is as many LFs as stand ahead.
func TestPlacesAndColumnsAreEachOthers(t *testing.T) {
	for _, s := range append(texts(), long(6000)) {
		r := of(t, s)
		for offset := range len(s) + 1 {
			line, col, err := place.Of(r, offset)
			if err != api.OK || line != strings.Count(s[:offset], "\n") {
				t.Fatalf("Of(%d) = %d, %d, %v", offset, line, col, err)
			}
			column(t, r, line, col, offset, api.OK)
		}
	}
}

// P3.3: each line and column that may be are those of one place, and there are no more of them than places.
func TestColumnsArePlaces(t *testing.T) {
	for _, s := range append(texts(), long(3000)) {
		r := of(t, s)
		next := 0
		for k := range r.Lines() {
			for col := 0; ; col++ {
				offset, err := place.Offset(r, k, col)
				if err == api.ErrRange && col > 0 {
					break
				}
				if offset != next || err != api.OK {
					t.Fatalf("Offset(%d, %d) = %d, %v, not %d", k, col, offset, err, next)
				}
				if line, c, err := place.Of(r, offset); line != k || c != col || err != api.OK {
					t.Fatalf("Of(%d) = %d, %d, %v, not %d, %d", offset, line, c, err, k, col)
				}
				next++
			}
		}
		if next != len(s)+1 {
			t.Fatalf("%d columns are %d places", next, len(s)+1)
		}
	}
}

// P3.3: each line and character that may be has a place, whose character it is; the places between have the next one's.
func TestCharactersArePlaces(t *testing.T) {
	for _, s := range append(texts(), long(3000)) {
		r := of(t, s)
		next := 0
		for k := range r.Lines() {
			for char := 0; ; char++ {
				offset, err := place.CharOffset(r, k, char)
				if err == api.ErrRange && char > 0 {
					break
				}
				if offset < next || offset > next+3 || err != api.OK {
					t.Fatalf("CharOffset(%d, %d) = %d, %v behind %d", k, char, offset, err, next-1)
				}
				for ; next <= offset; next++ {
					if c, err := place.Char(r, next); c != char || err != api.OK {
						t.Fatalf("Char(%d) = %d, %v, not %d", next, c, err, char)
					}
				}
			}
		}
		if next != len(s)+1 {
			t.Fatalf("characters have %d places of %d", next, len(s)+1)
		}
	}
}
