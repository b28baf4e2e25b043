package rope_test

import (
	"math"
	"math/bits"
	"strings"
	"testing"
	"unicode/utf8"
	"unsafe"

	"indenture/api"
	"indenture/rope"
)

// far are numbers that are no place of any text.
var far = []int{math.MinInt, math.MinInt + 1, -1 << 32, -api.MaxText, -2, -1, api.MaxText + 1, 1 << 32, math.MaxInt - 1, math.MaxInt}

// turn goes on to the next number of a row that looks unordered, and answers one from 0 to n - 1.
func turn(seed *uint64, n int) int {
	*seed = *seed*6364136223846793005 + 1442695040888963407
	return int(*seed >> 33 % uint64(n))
}

// of is a rope of a text that may be.
func of(t *testing.T, s string) *rope.Rope {
	t.Helper()
	r := rope.Of(s)
	if r == nil {
		t.Fatalf("Of a text of %d bytes = nil", len(s))
	}
	return r
}

// splice is the rope that comes of an edit that may be.
func splice(t *testing.T, r *rope.Rope, pos, del int, ins string) *rope.Rope {
	t.Helper()
	n, err := r.Splice(api.Edit{Pos: pos, Del: del, Ins: ins})
	if err != api.OK || n == nil {
		t.Fatalf("Splice(%d, %d, %d bytes) of %d bytes = %v, %v", pos, del, len(ins), r.Len(), n, err)
	}
	return n
}

// refused tells that an edit is refused so.
func refused(t *testing.T, r *rope.Rope, pos, del int, ins string, want api.Errno) {
	t.Helper()
	if n, err := r.Splice(api.Edit{Pos: pos, Del: del, Ins: ins}); n != nil || err != want {
		t.Errorf("Splice(%d, %d, %d bytes) of %d bytes = %v, %v", pos, del, len(ins), r.Len(), n, err)
	}
}

// counts holds what a rope tells of its whole against s.
func counts(t *testing.T, r *rope.Rope, s string) {
	t.Helper()
	if r.Len() != len(s) {
		t.Fatalf("Len = %d of %d bytes", r.Len(), len(s))
	}
	if r.Text() != s {
		t.Fatalf("Text of %d bytes is another one", len(s))
	}
	if n := strings.Count(s, "\n") + 1; r.Lines() != n {
		t.Fatalf("Lines = %d of %d lines", r.Lines(), n)
	}
	if n := utf8.RuneCountInString(s); r.Steps() != n {
		t.Fatalf("Steps = %d of %d steps", r.Steps(), n)
	}
	if d := r.Depth(); d < 0 || d > 2*bits.Len(uint(len(s)))+2 {
		t.Fatalf("Depth = %d of %d bytes", d, len(s))
	}
}

// lines holds each line that a rope tells against s.
func lines(t *testing.T, r *rope.Rope, s string) {
	t.Helper()
	from := 0
	for k, line := range strings.SplitAfter(s, "\n") {
		want := api.Range{From: from, To: from + len(line)}
		if got, err := r.Line(k); got != want || err != api.OK {
			t.Fatalf("Line(%d) = %v, %v, not %v", k, got, err, want)
		}
		from = want.To
	}
	for _, k := range []int{-1, r.Lines(), r.Lines() + 1, math.MinInt, math.MaxInt} {
		if got, err := r.Line(k); got != (api.Range{}) || err != api.ErrRange {
			t.Fatalf("Line(%d) = %v, %v", k, got, err)
		}
	}
}

// place holds what a rope tells of one place, or of a number that is none, against s.
func place(t *testing.T, r *rope.Rope, s string, at int) {
	t.Helper()
	b, err := r.Byte(at)
	if at >= 0 && at < len(s) && (b != s[at] || err != api.OK) {
		t.Fatalf("Byte(%d) = %d, %v", at, b, err)
	}
	if (at < 0 || at >= len(s)) && (b != 0 || err != api.ErrRange) {
		t.Fatalf("Byte(%d) of %d = %d, %v", at, len(s), b, err)
	}
	k, err := r.Find(at)
	if at >= 0 && at <= len(s) && (k != strings.Count(s[:at], "\n") || err != api.OK) {
		t.Fatalf("Find(%d) = %d, %v", at, k, err)
	}
	if (at < 0 || at > len(s)) && (k != 0 || err != api.ErrRange) {
		t.Fatalf("Find(%d) of %d = %d, %v", at, len(s), k, err)
	}
}

// slice holds the bytes between two places, or numbers that are none, against s.
func slice(t *testing.T, r *rope.Rope, s string, from, to int) {
	t.Helper()
	got, err := r.Slice(from, to)
	if from < 0 || to > len(s) || from > to {
		if got != "" || err != api.ErrRange {
			t.Fatalf("Slice(%d, %d) of %d = %q, %v", from, to, len(s), got, err)
		}
	} else if got != s[from:to] || err != api.OK {
		t.Fatalf("Slice(%d, %d) of %d = %d bytes, %v", from, to, len(s), len(got), err)
	}
}

// all holds everything that a rope of a short text tells against s.
func all(t *testing.T, r *rope.Rope, s string) {
	t.Helper()
	counts(t, r, s)
	lines(t, r, s)
	for from := -2; from <= len(s)+2; from++ {
		place(t, r, s, from)
		for to := -2; to <= len(s)+2; to++ {
			slice(t, r, s, from, to)
		}
	}
	for _, at := range far {
		place(t, r, s, at)
		slice(t, r, s, at, 0)
		slice(t, r, s, 0, at)
		slice(t, r, s, at, at)
	}
}

// some holds what a rope of a long text tells of its whole, its lines and some of its places against s.
func some(t *testing.T, r *rope.Rope, s string, seed *uint64) {
	t.Helper()
	counts(t, r, s)
	lines(t, r, s)
	for _, at := range []int{-1, 0, 1, len(s) - 1, len(s), len(s) + 1} {
		place(t, r, s, at)
	}
	for range 50 {
		from, to := turn(seed, len(s)+1), turn(seed, len(s)+1)
		place(t, r, s, from)
		slice(t, r, s, from, to)
		slice(t, r, s, min(from, to), max(from, to))
	}
}

// texts are short texts with and without LFs, characters of all lengths, whole and broken.
func texts() []string {
	return []string{
		"", "a", "\n", "\n\n\n", "a\nbc", "a\nbc\n", "\na", "no line ends here", "ends in one\n",
		"\x00\xff", "\r\n\r", "\xc3\xa9\n\xe2\x82\xac\xf0\x9f\x98\x80", "\xc3\n\xa9", "\xe2\x82", "\x80\x80\x80\x80",
	}
}

// long is a text of n bytes with lines of many lengths, and characters that end nowhere in particular.
func long(n int) string {
	var b strings.Builder
	for i := 0; b.Len() < n; i++ {
		b.WriteString(strings.Repeat("ab\xc3\xa9\xe2\x82\xac\xf0\x9f\x98\x80\xff", i%7))
		b.WriteString(strings.Repeat("\n", i%3))
		if i%50 == 0 {
			b.WriteString(strings.Repeat("x", 3000))
		}
	}
	return b.String()[:n]
}

// The examples of the chapter.
func TestExamples(t *testing.T) {
	r := of(t, "a\nbc")
	if r.Len() != 4 || r.Lines() != 2 {
		t.Errorf("Len, Lines = %d, %d", r.Len(), r.Lines())
	}
	for k, want := range []api.Range{{From: 0, To: 2}, {From: 2, To: 4}} {
		if got, err := r.Line(k); got != want || err != api.OK {
			t.Errorf("Line(%d) = %v, %v", k, got, err)
		}
	}
	if got, err := r.Line(2); got != (api.Range{}) || err != api.ErrRange {
		t.Errorf("Line(2) = %v, %v", got, err)
	}
	for at, want := range map[int]int{1: 0, 2: 1, 4: 1} {
		if k, err := r.Find(at); k != want || err != api.OK {
			t.Errorf("Find(%d) = %d, %v", at, k, err)
		}
	}
	if k, err := r.Find(5); k != 0 || err != api.ErrRange {
		t.Errorf("Find(5) = %d, %v", k, err)
	}
	n := splice(t, r, 1, 1, "X")
	if n.Text() != "aXbc" || n.Lines() != 1 || r.Text() != "a\nbc" {
		t.Errorf("Splice = %q of %d lines, and %q", n.Text(), n.Lines(), r.Text())
	}
	if b, err := r.Byte(4); b != 0 || err != api.ErrRange {
		t.Errorf("Byte(4) = %d, %v", b, err)
	}
	if s, err := r.Slice(1, 3); s != "\nb" || err != api.OK {
		t.Errorf("Slice(1, 3) = %q, %v", s, err)
	}
	if s, err := r.Slice(3, 1); s != "" || err != api.ErrRange {
		t.Errorf("Slice(3, 1) = %q, %v", s, err)
	}
}

// P2.1 to P2.6: calls on no rope.
func TestNoRope(t *testing.T) {
	var r *rope.Rope
	if r.Len() != 0 || r.Text() != "" || r.Lines() != 0 || r.Steps() != 0 || r.Depth() != 0 {
		t.Error("a rope that is none has something")
	}
	for _, at := range append(far, 0) {
		if b, err := r.Byte(at); b != 0 || err != api.ErrNil {
			t.Errorf("Byte(%d) = %d, %v", at, b, err)
		}
		if s, err := r.Slice(at, 0); s != "" || err != api.ErrNil {
			t.Errorf("Slice(%d, 0) = %q, %v", at, s, err)
		}
		if line, err := r.Line(at); line != (api.Range{}) || err != api.ErrNil {
			t.Errorf("Line(%d) = %v, %v", at, line, err)
		}
		if k, err := r.Find(at); k != 0 || err != api.ErrNil {
			t.Errorf("Find(%d) = %d, %v", at, k, err)
		}
		refused(t, r, at, 0, "", api.ErrNil)
		refused(t, r, 0, at, strings.Repeat("x", api.MaxText+1), api.ErrNil)
	}
}

// P2.1, P2.2, P2.4, P2.5: short texts, at all of their places and beyond.
func TestShortTexts(t *testing.T) {
	for _, s := range texts() {
		all(t, of(t, s), s)
	}
}

// P2.1: the longest text, and one that is longer.
func TestOfLongest(t *testing.T) {
	seed := uint64(1)
	for _, s := range []string{long(api.MaxText), strings.Repeat("\n", api.MaxText), strings.Repeat("x", api.MaxText), strings.Repeat("\xe2\x82\xac", api.MaxText/3)} {
		some(t, of(t, s), s, &seed)
	}
	for _, n := range []int{api.MaxText + 1, api.MaxText + 2, 3 * api.MaxText} {
		if r := rope.Of(strings.Repeat("x", n)); r != nil {
			t.Errorf("Of %d bytes is a rope", n)
		}
	}
}

// P2.1, P2.2, P2.4, P2.5: texts whose length is at, or about, where pieces might end.
func TestManyLengths(t *testing.T) {
	seed := uint64(2)
	whole := long(10000)
	for n := 0; n <= len(whole); n += 1 + n/23 {
		some(t, of(t, whole[:n]), whole[:n], &seed)
	}
	for _, n := range []int{63, 64, 65, 127, 128, 129, 255, 256, 257, 511, 512, 513, 1023, 1024, 1025, 2047, 2048, 2049, 4095, 4096, 4097} {
		some(t, of(t, whole[:n]), whole[:n], &seed)
	}
}

// P2.3: all edits of short texts, each of which leaves the old text as it was.
func TestSpliceOfShortTexts(t *testing.T) {
	for _, s := range texts() {
		r := of(t, s)
		for pos := -1; pos <= len(s)+1; pos++ {
			for del := -1; del <= len(s)+1; del++ {
				for _, ins := range []string{"", "x", "\n", "\xa9\xc3", "p\nq\n"} {
					if pos < 0 || del < 0 || pos+del > len(s) {
						refused(t, r, pos, del, ins, api.ErrRange)
						continue
					}
					want := s[:pos] + ins + s[pos+del:]
					n := splice(t, r, pos, del, ins)
					counts(t, n, want)
					lines(t, n, want)
				}
			}
		}
		for _, at := range far {
			refused(t, r, at, 0, "x", api.ErrRange)
			refused(t, r, 0, at, "x", api.ErrRange)
			refused(t, r, at, at, "x", api.ErrRange)
			refused(t, r, len(s), at, "x", api.ErrRange)
		}
		all(t, r, s)
	}
}

// P2.3: edits of a text that has just as many bytes as it may, and of some that have less.
func TestSpliceOfLongest(t *testing.T) {
	s := long(api.MaxText)
	r := of(t, s)
	end := len(s)
	for _, x := range []struct {
		pos, del, ins int
		want          api.Errno
	}{
		{0, 0, 0, api.OK}, {0, 0, 1, api.ErrLong}, {end, 0, 0, api.OK}, {end, 0, 1, api.ErrLong},
		{end - 1, 1, 1, api.OK}, {end - 1, 1, 2, api.ErrLong}, {end - 1, 1, 0, api.OK},
		{end / 2, 100, 100, api.OK}, {end / 2, 100, 99, api.OK}, {end / 2, 100, 101, api.ErrLong},
		{0, end, end, api.OK}, {0, end, end + 1, api.ErrLong}, {0, end, 0, api.OK}, {0, 0, 2 * end, api.ErrLong},
		{end, 1, 0, api.ErrRange}, {end, 1, 2 * end, api.ErrRange}, {end + 1, 0, 1, api.ErrRange}, {-1, 0, 1, api.ErrRange},
		{0, -1, 1, api.ErrRange}, {0, end + 1, 1, api.ErrRange}, {1, end, end, api.ErrRange}, {0, math.MaxInt, end, api.ErrRange},
		{math.MaxInt, math.MaxInt, end, api.ErrRange}, {end, math.MaxInt, end, api.ErrRange}, {math.MinInt, math.MaxInt, end, api.ErrRange},
	} {
		ins := strings.Repeat("y\n", x.ins/2+1)[:x.ins]
		if x.want != api.OK {
			refused(t, r, x.pos, x.del, ins, x.want)
			continue
		}
		counts(t, splice(t, r, x.pos, x.del, ins), s[:x.pos]+ins+s[x.pos+x.del:])
	}
	counts(t, r, s)
	half := of(t, s[:end/2])
	counts(t, splice(t, half, 7, 0, s[end/2:]), s[:7]+s[end/2:]+s[7:end/2])
	refused(t, half, 7, 0, s[end/2-1:], api.ErrLong)
	refused(t, half, end/2+1, 0, s, api.ErrRange)
	empty := of(t, "")
	counts(t, splice(t, empty, 0, 0, s), s)
	refused(t, empty, 0, 0, s+"x", api.ErrLong)
	refused(t, empty, 0, 1, s+"x", api.ErrRange)
}

// P2.5: steps are those of the whole, wherever an edit cuts characters or puts broken ones together.
func TestStepsOverSeams(t *testing.T) {
	seed := uint64(3)
	odd := []string{"\xf0", "\x9f", "\x98", "\x80", "\xe2", "\x82", "\xac", "\xc3", "\xa9", "a", "\xf0\x9f", "\x98\x80", "\xe2\x82", "\xff"}
	for _, start := range []string{"", strings.Repeat("\xf0\x9f\x98\x80", 1500), strings.Repeat("\x80", 3000), strings.Repeat("\xe2\x82", 1200)} {
		s := start
		r := of(t, s)
		for range 3000 {
			pos := turn(&seed, len(s)+1)
			del := turn(&seed, min(3, len(s)-pos)+1)
			ins := odd[turn(&seed, len(odd))]
			s = s[:pos] + ins + s[pos+del:]
			r = splice(t, r, pos, del, ins)
			if n := utf8.RuneCountInString(s); r.Steps() != n {
				t.Fatalf("Steps = %d of %d", r.Steps(), n)
			}
		}
		some(t, r, s, &seed)
	}
}

// P2.5: a long text of one character over and over, cut at each place about where its pieces might end.
func TestStepsOfCutTexts(t *testing.T) {
	for _, c := range []string{"\xc3\xa9", "\xe2\x82\xac", "\xf0\x9f\x98\x80"} {
		s := "x" + strings.Repeat(c, 2000)
		r := of(t, s)
		for at := 0; at <= len(s); at++ {
			a, b := splice(t, r, at, len(s)-at, ""), splice(t, r, 0, at, "")
			if n := utf8.RuneCountInString(s[:at]); a.Steps() != n {
				t.Fatalf("Steps = %d of %d", a.Steps(), n)
			}
			if n := utf8.RuneCountInString(s[at:]); b.Steps() != n {
				t.Fatalf("Steps = %d of %d", b.Steps(), n)
			}
			if whole := splice(t, a, at, 0, s[at:]); whole.Steps() != 2001 {
				t.Fatalf("Steps = %d, put together again at %d", whole.Steps(), at)
			}
		}
	}
}

// shallow tells that a rope is no deeper than it may be.
func shallow(t *testing.T, r *rope.Rope) {
	t.Helper()
	if d := r.Depth(); d < 0 || d > 2*bits.Len(uint(r.Len()))+2 {
		t.Fatalf("Depth = %d of %d bytes", d, r.Len())
	}
}

// P2.6: many edits at one place: bytes put one by one at the beginning, at the end and in the midst, and taken again.
func TestDepthOfEditsAtOnePlace(t *testing.T) {
	const n = 60000
	for _, at := range []func(*rope.Rope) int{
		func(r *rope.Rope) int { return 0 },
		func(r *rope.Rope) int { return r.Len() },
		func(r *rope.Rope) int { return r.Len() / 2 },
		func(r *rope.Rope) int { return min(1000, r.Len()) },
	} {
		r := of(t, "")
		for range n {
			r = splice(t, r, at(r), 0, "z")
			shallow(t, r)
		}
		counts(t, r, strings.Repeat("z", n))
		for r.Len() > 0 {
			r = splice(t, r, min(at(r), r.Len()-1), 1, "")
			shallow(t, r)
		}
		counts(t, r, "")
	}
}

// P2.6: long texts put at one place, or cut away there, leave the depth within its bound.
func TestDepthOfLongPieces(t *testing.T) {
	seed := uint64(4)
	s := long(api.MaxText)
	r := of(t, s)
	shallow(t, r)
	for range 400 {
		pos := turn(&seed, len(s)+1)
		n := turn(&seed, len(s)-pos+1)
		cut := s[pos : pos+n]
		r = splice(t, r, pos, n, "")
		s = s[:pos] + s[pos+n:]
		shallow(t, r)
		pos = turn(&seed, len(s)+1)
		r = splice(t, r, pos, 0, cut)
		s = s[:pos] + cut + s[pos:]
		shallow(t, r)
	}
	some(t, r, s, &seed)
}

// P2.3, P2.7: ropes that come of many edits one of another tell what ropes of their texts tell, and each stays as it was.
func TestManyEdits(t *testing.T) {
	seed := uint64(5)
	for _, size := range []int{0, 10, 700, 5000, 40000} {
		ropes, kept := []*rope.Rope{of(t, long(size))}, []string{long(size)}
		for range 400 {
			i := len(ropes) - 1 - turn(&seed, min(3, len(ropes)))
			r, s := ropes[i], kept[i]
			pos := turn(&seed, len(s)+1)
			del := turn(&seed, min(len(s)-pos, 1+turn(&seed, 2000))+1)
			ins := long(60000)[turn(&seed, 30000):][:turn(&seed, 1+turn(&seed, 2000))]
			ropes = append(ropes, splice(t, r, pos, del, ins))
			kept = append(kept, s[:pos]+ins+s[pos+del:])
		}
		for i, r := range ropes {
			some(t, r, kept[i], &seed)
			fresh := of(t, kept[i])
			if r.Steps() != fresh.Steps() || r.Lines() != fresh.Lines() || r.Text() != fresh.Text() {
				t.Fatalf("rope %d tells another text than a rope of its text", i)
			}
		}
	}
}

// P2.7: lines lie one behind the other, and are all of the text; an offset lies in the line that is found.
func TestLinesAreAllOfAText(t *testing.T) {
	for _, s := range append(texts(), long(5000)) {
		r := of(t, s)
		to := 0
		for k := range r.Lines() {
			line, err := r.Line(k)
			if err != api.OK || line.From != to || line.To < line.From {
				t.Fatalf("Line(%d) = %v, %v behind %d", k, line, err, to)
			}
			for at := line.From; at < line.To; at++ {
				if found, err := r.Find(at); found != k || err != api.OK {
					t.Fatalf("Find(%d) = %d, %v, not %d", at, found, err, k)
				}
			}
			to = line.To
		}
		if last, err := r.Find(len(s)); to != len(s) || last != r.Lines()-1 || err != api.OK {
			t.Fatalf("lines end at %d of %d, Find there = %d, %v", to, len(s), last, err)
		}
	}
}

// inside tells whether the bytes of part are bytes of whole themselves, and no copy.
func inside(part, whole string) bool {
	from := uintptr(unsafe.Pointer(unsafe.StringData(whole)))
	at := uintptr(unsafe.Pointer(unsafe.StringData(part)))
	return at >= from && at < from+uintptr(len(whole))
}

// R3: what is handed in is not kept, and what is handed out is new.
func TestNothingIsShared(t *testing.T) {
	for _, n := range []int{1, 100, 5000} {
		s := long(n)
		r := splice(t, of(t, s), 0, 0, s)
		text := r.Text()
		part, _ := r.Slice(0, n)
		if inside(text, s) || inside(part, s) || inside(part, text) || inside(r.Text(), text) {
			t.Fatalf("texts of %d bytes share them", n)
		}
	}
}
