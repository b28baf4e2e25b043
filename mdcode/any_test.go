package mdcode_test

import (
	"math"
	"slices"
	"strings"
	"testing"

	"indenture/api"
	"indenture/mdcode"
)

// pieces are what lines are made of.
var pieces = []string{
	" ", " ", "  ", "\t", `\`, `\`, `\\`, "`", "`", "``", "```", "<", "<", ">", "<ab:", "<a@", ":", "@", ".", "-", "&", "&", "&amp", "&#", "&#x", "#", "x", ";", ";", "a", "b", "C", "1", "23", "http", "*", "_", "[", "]", "(", ")", "\r", "\n", "\x00", "\x7f", "\xff", "\xc3\xa9", "<a@b.c>", "&lt;", "<ab:c>",
}

// turn goes on to the next number of a row that looks unordered, and answers one from 0 to n - 1.
func turn(seed *uint64, n int) int {
	*seed = *seed*6364136223846793005 + 1442695040888963407
	return int(*seed >> 33 % uint64(n))
}

// anyBytes are at most n bytes, whatever they are.
func anyBytes(seed *uint64, n int) string {
	b := make([]byte, turn(seed, n+1))
	for i := range b {
		b[i] = byte(turn(seed, 256))
	}
	return string(b)
}

// anyLine is a line of whatever bytes, of pieces that mean something, or of few different ones.
func anyLine(seed *uint64) string {
	end := []string{"", "\n", "\n", "\r\n", "\\\n", "  \n", " \n`", "\n>"}[turn(seed, 8)]
	if turn(seed, 6) == 0 {
		return anyBytes(seed, 12) + end
	}
	few := []string{pieces[turn(seed, len(pieces))], pieces[turn(seed, len(pieces))], "`"}
	if turn(seed, 3) > 0 {
		few = pieces
	}
	var b strings.Builder
	for range turn(seed, 14) {
		b.WriteString(few[turn(seed, len(few))])
	}
	return b.String() + end
}

// holdSpansAnywhere holds that the leaves of a part are what Read tells, in order, within it, and have bytes.
func holdSpansAnywhere(t *testing.T, line string, from, end int) {
	t.Helper()
	ev := mdcode.Spans(line, from, end)
	if want := spans(line, from, end); !slices.Equal(ev, want) {
		t.Fatalf("Spans(%q, %d, %d) tells %s, not %s", line, from, end, told(ev), told(want))
	}
	far := from
	for _, e := range ev {
		if e.At < far || e.To <= e.At || e.To > min(end, len(ended(line))) {
			t.Fatalf("Spans(%q, %d, %d) tells %s", line, from, end, told(ev))
		}
		far = e.To
	}
}

// P20.1 to P20.3: whatever the line, at every place, up to every place.
func TestAnyLine(t *testing.T) {
	seed := uint64(20)
	count := map[uint8]int{}
	for range 60000 {
		line := anyLine(&seed)
		ends := []int{len(line) + 9, turn(&seed, len(line)+2), turn(&seed, len(line)+2)}
		for _, end := range ends {
			for at := -1; at <= len(line)+1; at++ {
				count[holdModel(t, line, at, end)]++
			}
			holdSpansAnywhere(t, line, turn(&seed, 4)-1, end)
		}
	}
	for kind, word := range words {
		if count[kind] < 5000 {
			t.Errorf("%s is told %d times: the lines try too little", word, count[kind])
		}
	}
}

// lines are all lines of at most n of the bytes of letters.
func lines(letters string, n int) []string {
	all := []string{""}
	for from := 0; n > 0; n-- {
		to := len(all)
		for _, l := range all[from:to] {
			for i := range len(letters) {
				all = append(all, l+letters[i:i+1])
			}
		}
		from = to
	}
	return all
}

// P20.1 to P20.3: all lines of few bytes of those that mean something.
func TestShortLines(t *testing.T) {
	for _, x := range []struct {
		letters string
		n       int
	}{{"`a", 9}, {"\\* \n", 6}, {" \r\na", 7}, {"<a:>@", 6}, {"<a@.->", 6}, {"&#x1;", 6}, {"&lt;", 6}, {"\\`<> ", 5}} {
		for _, line := range lines(x.letters, x.n) {
			for _, end := range []int{len(line), max(len(line)-1, 0)} {
				holdModel(t, line, 0, end)
				holdModel(t, line, 1, end)
				holdSpansAnywhere(t, line, 0, end)
			}
		}
	}
}

// P20.3: what stands behind the part plays no part, but for what the line's end says; what stands ahead of it plays none at all.
func TestBehindThePart(t *testing.T) {
	seed := uint64(3)
	for range 40000 {
		own := strings.NewReplacer("\n", "", "\r", "").Replace(anyLine(&seed))
		// Neither an LF nor a byte 13 begins what is behind: so the part's end is not the line's.
		line := own + "x" + anyBytes(&seed, 9)
		other := own + "`" + anyLine(&seed)
		want := mdcode.Spans(line, 0, len(own))
		if ev := mdcode.Spans(other, 0, len(own)); !slices.Equal(ev, want) {
			t.Fatalf("Spans(%q, 0, %d) tells %s, and %s of %q", line, len(own), told(want), told(ev), other)
		}
		ahead := strings.ReplaceAll(anyBytes(&seed, 9), "\n", "")
		ev := mdcode.Spans(ahead+line, len(ahead), len(ahead+own))
		for i := range ev {
			ev[i].At -= len(ahead)
			ev[i].To -= len(ahead)
		}
		if !slices.Equal(ev, want) {
			t.Fatalf("behind %q %q tells %s, not %s", ahead, line, told(ev), told(want))
		}
	}
}

// P20.4: code, of whatever bytes, is one span, if more accents are put around it than it has anywhere one behind the other, and a blank on both sides.
func TestAnyCode(t *testing.T) {
	seed := uint64(4)
	for range 40000 {
		code := strings.ReplaceAll(anyLine(&seed)+anyBytes(&seed, 9), "\n", "``")
		most := 0
		for _, row := range accents.FindAllString(code, -1) {
			most = max(most, len(row))
		}
		sign := strings.Repeat("`", most+1+turn(&seed, 2))
		line := "a" + sign + " " + code + " " + sign + "b`\n"
		want := leaf(api.MdSpan, 1, len(line)-3)
		if ev := mdcode.Spans(line, 0, len(line)-3); len(ev) != 1 || ev[0] != want {
			t.Fatalf("Spans(%q) tells %s", line, told(ev))
		}
	}
}

// R1: a line of more than MaxText bytes is read, too.
func TestLongLines(t *testing.T) {
	const n = api.MaxText + 9
	for _, piece := range []string{" ", `\`, "`", "<", "<ab:", "<a@", "a@", "&", "&#", "&#x", "a", "a.", "-", "\r", "`a", " a", "  a", "`` `", "\x00", ">", ";"} {
		for _, ahead := range []string{"", "<ab:", "<a@b", "&", "`", "``"} {
			line := ahead + strings.Repeat(piece, n/len(piece)) + " "
			for _, end := range []string{"", "\n", "a\n"} {
				mdcode.Spans(line+end, 0, math.MaxInt)
				mdcode.Read(line+end, 0, len(line))
				mdcode.Read(line+end, len(line)/2, len(line))
			}
		}
	}
	// Rows of accents none of which is as long as another one.
	var b strings.Builder
	for i := 1; b.Len() < n/4; i++ {
		b.WriteString(strings.Repeat("`", i) + "a")
	}
	if ev := mdcode.Spans(b.String(), 0, math.MaxInt); len(ev) != 0 {
		t.Errorf("rows of accents tell %d leaves", len(ev))
	}
	hold(t, "`"+strings.Repeat("a", n)+"`", 0, n+2, api.MdSpan, n+2)
	hold(t, strings.Repeat(" ", n)+"\n", 0, n, api.MdBreak, n)
	hold(t, "<ab:"+strings.Repeat("a", n)+">", 0, n+5, api.MdAuto, n+5)
	hold(t, "<a@b"+strings.Repeat(".a", n)+">", 0, 2*n+5, api.MdAuto, 2*n+5)
}
