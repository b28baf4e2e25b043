package tab_test

import (
	"math"
	"strings"
	"testing"

	"indenture/api"
	"indenture/tab"
)

// far is the greatest column from which may be gone on.
const far = 1 << 40

// out are numbers that are no place, no column and no size, as far out as an int goes.
var out = []int{math.MinInt, math.MinInt + 1, -1 << 62, -far - 1, -far, -api.MaxText, -65, -64, -2, -1, far + 1, far + 2, 2 * far, 1 << 62, math.MaxInt - 1, math.MaxInt}

// behind is the column behind the byte c, which stands at the column col, found by counting; false, if c makes no columns.
func behind(c byte, col, size int) (int, bool) {
	switch c {
	case 32:
		return col + 1, true
	case 9:
		for col++; col%size != 0; {
			col++
		}
		return col, true
	}
	return 0, false
}

// took is what Take tells, byte by byte.
func took(line string, at, col, want, size int) (int, int) {
	if at < 0 || at > len(line) || col < 0 || col > far || size < 1 || size > 64 {
		return 0, 0
	}
	left := min(max(want, 0), far)
	for at < len(line) {
		to, is := behind(line[at], col, size)
		if !is || to-col > left {
			break
		}
		left -= to - col
		at, col = at+1, to
	}
	return at, col
}

// holdIndent holds one answer of Indent.
func holdIndent(t *testing.T, line string, at, col, size, to, toCol int) {
	t.Helper()
	if i, k := tab.Indent(line, at, col, size); i != to || k != toCol {
		t.Errorf("Indent(%.40q, %d, %d, %d) = %d, %d, not %d, %d", line, at, col, size, i, k, to, toCol)
	}
}

// holdTake holds one answer of Take.
func holdTake(t *testing.T, line string, at, col, want, size, to, toCol int) {
	t.Helper()
	if i, k := tab.Take(line, at, col, want, size); i != to || k != toCol {
		t.Errorf("Take(%.40q, %d, %d, %d, %d) = %d, %d, not %d, %d", line, at, col, want, size, i, k, to, toCol)
	}
}

// lines are all lines of at most n of the bytes of letters.
func lines(letters string, n int) []string {
	all := []string{""}
	for from := 0; n > 0; n-- {
		to := len(all)
		for _, l := range all[from:to] {
			for i := range len(letters) {
				all = append(all, l+letters[i:i+1])
			}
		}
		from = to
	}
	return all
}

// P9.1: the chapter's examples, and each kind of line.
func TestIndent(t *testing.T) {
	for _, x := range []struct {
		line                     string
		at, col, size, to, toCol int
	}{
		{" \tx", 0, 0, 8, 2, 8}, {"\t\t", 1, 4, 4, 2, 8}, {"x", 2, 0, 4, 0, 0},
		// Nothing, blanks alone, tabs alone, both by turns, neither.
		{"", 0, 0, 8, 0, 0}, {"", 0, 5, 8, 0, 5},
		{"   ", 0, 0, 8, 3, 3}, {"\t\t\t", 0, 0, 8, 3, 24},
		{" \t \t", 0, 0, 4, 4, 8}, {"\t \t x", 0, 0, 8, 4, 17}, {"    \tx", 0, 0, 4, 5, 8}, {"   \tx", 0, 0, 4, 4, 4},
		{"x  ", 0, 0, 8, 0, 0}, {"x\t", 0, 3, 8, 0, 3}, {"  x  ", 0, 0, 8, 2, 2}, {"\tx\t", 0, 0, 8, 1, 8},
		// Where it begins: in the midst, at the first other byte, behind it, at the end.
		{"  \t x", 1, 1, 4, 4, 5}, {"  \t x", 2, 2, 4, 4, 5}, {"  \t x", 4, 5, 4, 4, 5}, {"  x \ty", 3, 3, 4, 5, 8}, {"  x", 3, 3, 4, 3, 3}, {"   ", 3, 7, 4, 3, 7},
		// The column hangs on col, not on at.
		{"  x", 0, 10, 8, 2, 12}, {"\tx", 0, 0, 8, 1, 8}, {"\tx", 0, 7, 8, 1, 8}, {"\tx", 0, 8, 8, 1, 16}, {"\tx", 0, 9, 8, 1, 16}, {"\tx", 0, 15, 8, 1, 16}, {"\tx", 0, 16, 8, 1, 24},
		// Sizes.
		{" \t\t", 0, 0, 1, 3, 3}, {"\t", 0, 5, 1, 1, 6}, {"\t", 0, 5, 2, 1, 6}, {"\t", 0, 5, 3, 1, 6}, {"\t", 0, 6, 3, 1, 9}, {"\t", 0, 0, 64, 1, 64}, {"\t", 0, 63, 64, 1, 64}, {"\t", 0, 64, 64, 1, 128}, {"\t\t", 0, 62, 63, 2, 126},
	} {
		holdIndent(t, x.line, x.at, x.col, x.size, x.to, x.toCol)
	}
}

// P9.1, P9.2: blanks and tabs are gone over, no other byte, white or not.
func TestOtherBytes(t *testing.T) {
	for c := range 256 {
		b := string([]byte{byte(c)})
		switch c {
		case 32:
			holdIndent(t, b, 0, 3, 8, 1, 4)
			holdTake(t, b, 0, 3, 9, 8, 1, 4)
		case 9:
			holdIndent(t, b, 0, 3, 8, 1, 8)
			holdTake(t, b, 0, 3, 9, 8, 1, 8)
		default:
			holdIndent(t, b, 0, 3, 8, 0, 3)
			holdTake(t, b, 0, 3, 9, 8, 0, 3)
			holdIndent(t, " "+b+" ", 0, 3, 8, 1, 4)
			holdTake(t, "\t"+b+" ", 0, 3, 9, 8, 1, 8)
		}
	}
	for _, b := range []string{"\u00a0", "\u0085", "\u2003", "\u3000", "\ufeff", "\xe2\x80", "\xa0"} {
		holdIndent(t, b+" x", 0, 0, 8, 0, 0)
		holdTake(t, b+" x", 0, 0, 9, 8, 0, 0)
	}
}

// P9.1, P9.2: arguments that may not be answer 0 and 0, those just beside them do not.
func TestArguments(t *testing.T) {
	line := " \tx"
	none := func(line string, at, col, size int) {
		t.Helper()
		holdIndent(t, line, at, col, size, 0, 0)
		for _, want := range []int{math.MinInt, -1, 0, 1, 9, far, math.MaxInt} {
			holdTake(t, line, at, col, want, size, 0, 0)
		}
	}
	for _, n := range out {
		none(line, n, 5, 8)
		none("", n, 5, 8)
		none(line, 1, n, 8)
		none(line, 1, 5, n)
		none(line, n, n, n)
	}
	none(line, 4, 5, 8)
	none("", 1, 5, 8)
	none(line, 1, 5, 0)
	none(line, 1, 5, 65)
	none(line, 1, far+1, 1)
	holdIndent(t, line, 3, 5, 8, 3, 5)
	holdTake(t, line, 3, 5, 9, 8, 3, 5)
	holdIndent(t, "", 0, far, 64, 0, far)
	holdTake(t, "", 0, far, 9, 64, 0, far)
	holdIndent(t, line, 1, 5, 1, 2, 6)
	holdTake(t, line, 1, 5, 1, 1, 2, 6)
	holdIndent(t, line, 1, 5, 64, 2, 64)
	holdTake(t, line, 1, 5, 59, 64, 2, 64)
}

// P9.1, P9.2: from the greatest column on may be gone as from any other.
func TestGreatColumns(t *testing.T) {
	for _, size := range []int{1, 3, 8, 63, 64} {
		for col := far - 130; col <= far; col++ {
			to := (col/size + 1) * size
			holdIndent(t, "x\t", 1, col, size, 2, to)
			holdTake(t, "x\t", 1, col, to-col, size, 2, to)
			holdTake(t, "x\t", 1, col, to-col-1, size, 1, col)
			holdIndent(t, "x  ", 1, col, size, 3, col+2)
			holdTake(t, "x  ", 1, col, 1, size, 2, col+1)
		}
	}
	holdIndent(t, " \t", 0, far, 8, 2, far+8)
	for _, want := range []int{8, 9, far - 1, far, far + 1, 2 * far, math.MaxInt - far, math.MaxInt - 1, math.MaxInt} {
		holdTake(t, " \tx", 0, far, want, 8, 2, far+8)
	}
}

// P9.2: the chapter's examples, and just how far is gone.
func TestTake(t *testing.T) {
	for _, x := range []struct {
		line                           string
		at, col, want, size, to, toCol int
	}{
		{"   ", 0, 0, 2, 4, 2, 2}, {"\t", 0, 2, 1, 4, 0, 2}, {"\t", 0, 2, 2, 4, 1, 4},
		// Nothing, blanks alone, tabs alone, both by turns, neither.
		{"", 0, 3, 2, 4, 0, 3}, {"   ", 0, 0, 3, 4, 3, 3}, {"   ", 0, 0, 4, 4, 3, 3}, {"   x", 0, 0, 9, 4, 3, 3},
		{"\t\t", 0, 0, 4, 4, 1, 4}, {"\t\t", 0, 0, 7, 4, 1, 4}, {"\t\t", 0, 0, 8, 4, 2, 8}, {"\t\t", 0, 0, 9, 4, 2, 8},
		{" \t \t", 0, 0, 5, 4, 3, 5}, {" \t \t", 0, 0, 7, 4, 3, 5}, {" \t \t", 0, 0, 8, 4, 4, 8}, {"x ", 0, 1, 5, 4, 0, 1},
		// A tab that comes just to col and want, and one that would come to one more.
		{"\t", 0, 0, 8, 8, 1, 8}, {"\t", 0, 0, 7, 8, 0, 0}, {"\t", 0, 7, 1, 8, 1, 8}, {"\t", 0, 7, 0, 8, 0, 7}, {"\t", 0, 8, 8, 8, 1, 16}, {"\t", 0, 8, 7, 8, 0, 8}, {"\t", 0, 9, 7, 8, 1, 16}, {"\t", 0, 9, 6, 8, 0, 9},
		// A blank behind a tab that was not gone over is not gone over, nor a tab behind it.
		{"\t ", 0, 0, 3, 4, 0, 0}, {" \t ", 0, 0, 2, 4, 1, 1}, {"\t \t", 0, 1, 2, 4, 0, 1}, {"  \t  ", 0, 0, 3, 4, 2, 2}, {"\t x", 0, 63, 0, 64, 0, 63},
		// Where it begins, and a column that hangs on col alone.
		{"    x", 2, 2, 1, 4, 3, 3}, {"    x", 2, 9, 9, 4, 4, 11}, {"  \tx", 2, 6, 2, 4, 3, 8}, {"  \tx", 2, 6, 1, 4, 2, 6}, {"  x", 2, 2, 9, 4, 2, 2}, {"  x", 3, 3, 9, 4, 3, 3},
		// Sizes.
		{"\t\t", 0, 3, 1, 1, 1, 4}, {"\t", 0, 0, 63, 64, 0, 0}, {"\t", 0, 0, 64, 64, 1, 64},
		// No column is wanted, or fewer than none.
		{"  \t", 0, 0, 0, 4, 0, 0}, {"  \t", 0, 3, 0, 4, 0, 3}, {"\t", 0, 3, 0, 4, 0, 3}, {"  \t", 0, 3, -1, 4, 0, 3}, {"  \t", 1, 3, -2, 4, 1, 3}, {"  \t", 1, 3, math.MinInt, 4, 1, 3}, {"\t", 0, far, math.MinInt, 4, 0, far},
		// As many as may be wanted, or more.
		{"  \tx", 0, 3, far, 4, 3, 8}, {"  \tx", 0, 3, far + 1, 4, 3, 8}, {"  \tx", 0, 3, math.MaxInt, 4, 3, 8}, {"  \tx", 0, 0, math.MaxInt, 4, 3, 4},
	} {
		holdTake(t, x.line, x.at, x.col, x.want, x.size, x.to, x.toCol)
	}
}

// P9.1, P9.2: all short lines, from each of their places, against what is told byte by byte.
func TestShortLines(t *testing.T) {
	cols := []int{-1, 0, 1, 3, 4, 5, 7, 8, 9, far - 1, far, far + 1}
	sizes := []int{-1, 0, 1, 2, 3, 4, 8, 64, 65}
	wants := []int{-1, 0, 1, 2, 3, 4, 5, 8, 9, 64, far}
	for _, line := range lines(" \tx\n", 4) {
		for at := -1; at <= len(line)+1; at++ {
			for _, col := range cols {
				for _, size := range sizes {
					to, toCol := took(line, at, col, far, size)
					holdIndent(t, line, at, col, size, to, toCol)
					for _, want := range wants {
						to, toCol := took(line, at, col, want, size)
						holdTake(t, line, at, col, want, size, to, toCol)
					}
				}
			}
		}
		if t.Failed() {
			return
		}
	}
}

// P9.4: Indent is Take of as much as there is, and goes on from where Take stopped; what is taken by pieces is what is taken at one time.
func TestPieces(t *testing.T) {
	for _, line := range lines(" \tx", 6) {
		for _, size := range []int{1, 3, 4, 8, 64} {
			for _, col := range []int{0, 1, 3, 7, far - 500} {
				end, endCol := tab.Indent(line, 0, col, size)
				holdTake(t, line, 0, col, far, size, end, endCol)
				holdTake(t, line, 0, col, endCol-col, size, end, endCol)
				for all := range 20 {
					to, toCol := tab.Take(line, 0, col, all, size)
					holdIndent(t, line, to, toCol, size, end, endCol)
					for first := range all {
						at, atCol := tab.Take(line, 0, col, first, size)
						holdTake(t, line, at, atCol, all-(atCol-col), size, to, toCol)
					}
				}
			}
		}
		if t.Failed() {
			return
		}
	}
}

// P9.4: columns never fall, and stay within what was wanted; behind a tab they are a multiple of the size.
func TestColumns(t *testing.T) {
	for _, line := range lines(" \t", 7) {
		for size := 1; size <= 64; size += 3 {
			for _, col := range []int{0, 2, 8, 63, far - 3, far} {
				last := col
				for want := range 130 {
					to, toCol := tab.Take(line, 0, col, want, size)
					if toCol < last || toCol-col > want {
						t.Fatalf("Take(%q, 0, %d, %d, %d) comes to the column %d, behind %d", line, col, want, size, toCol, last)
					}
					if to > 0 && line[to-1] == '\t' && toCol%size != 0 {
						t.Fatalf("Take(%q, 0, %d, %d, %d) comes to the column %d behind a tab", line, col, want, size, toCol)
					}
					last = toCol
				}
				to, toCol := tab.Indent(line, 0, col, size)
				if to != len(line) || toCol < last || strings.HasSuffix(line, "\t") && toCol%size != 0 {
					t.Fatalf("Indent(%q, 0, %d, %d) = %d, %d", line, col, size, to, toCol)
				}
			}
		}
	}
}

// P9.1, P9.2, P9.3: lines as long as a text may be.
func TestLongLines(t *testing.T) {
	n := api.MaxText
	blanks, tabs := strings.Repeat(" ", n), strings.Repeat("\t", n)
	holdIndent(t, blanks, 0, 0, 8, n, n)
	holdIndent(t, tabs, 0, 0, 64, n, 64*n)
	holdIndent(t, tabs, 0, 0, 1, n, n)
	holdIndent(t, tabs, 0, far, 64, n, far+64*n)
	holdTake(t, blanks, 0, 0, n-1, 8, n-1, n-1)
	holdTake(t, tabs, 0, 0, 64*n-1, 64, n-1, 64*n-64)
	holdTake(t, tabs, 1, 64, 64*n-64, 64, n, 64*n)
	if !tab.Blank(blanks, 0) || !tab.Blank(tabs, n) || tab.Blank(blanks+"x", 0) || !tab.Blank("x"+tabs, 1) {
		t.Error("Blank of a long line")
	}
	if k := tab.End(blanks + "\r\n"); k != n {
		t.Errorf("End of a long line = %d", k)
	}
}

// P9.3: Blank of the chapter's examples, and at each place of some lines.
func TestBlank(t *testing.T) {
	for _, x := range []struct {
		line string
		at   int
		is   bool
	}{
		{"x \n", 1, true}, {"", 0, true}, {"", 1, false}, {"", -1, false},
		{"x \n", 0, false}, {"x \n", 2, true}, {"x \n", 3, true}, {"x \n", 4, false}, {"x \n", -1, false},
		{"x", 0, false}, {"x", 1, true}, {"x", 2, false}, {"   ", 0, true}, {"   ", 3, true}, {"   ", 4, false}, {"   ", -1, false},
		{" x ", 0, false}, {" x ", 1, false}, {" x ", 2, true}, {"  x", 0, false}, {"  x", 2, false}, {"  x", 3, true},
		{"\t\n\v\f\r ", 0, true}, {"\r\n", 0, true}, {"\n\n", 0, true}, {"\n x", 0, false}, {"\nx", 1, false},
		{"\u00a0", 0, false}, {"\u00a0", 2, true}, {"\u2003", 0, false}, {"\u0085", 0, false}, {"\x00", 0, false}, {" \xff", 0, false},
	} {
		if is := tab.Blank(x.line, x.at); is != x.is {
			t.Errorf("Blank(%q, %d) = %v", x.line, x.at, is)
		}
	}
	for _, at := range out {
		if tab.Blank("", at) || tab.Blank("   ", at) || tab.Blank("x", at) {
			t.Errorf("Blank at %d", at)
		}
	}
}

// P9.3: just six bytes are blank, wherever they stand behind the place, and none ahead of it counts.
func TestBlankBytes(t *testing.T) {
	for c := range 256 {
		b := string([]byte{byte(c)})
		want := c == 9 || c == 10 || c == 11 || c == 12 || c == 13 || c == 32
		for _, line := range []string{b, b + " ", " " + b, "\t" + b + "\n"} {
			if is := tab.Blank(line, 0); is != want {
				t.Errorf("Blank(%q, 0) = %v", line, is)
			}
			if !tab.Blank(b+line, len(b+line)) {
				t.Errorf("Blank(%q, %d) = false", b+line, len(b+line))
			}
		}
		if !tab.Blank(b+" \n", 1) || !tab.Blank(b, 1) {
			t.Errorf("Blank behind %q = false", b)
		}
	}
}

// P9.3: End of the chapter's examples, and of each way a line ends.
func TestEnd(t *testing.T) {
	for _, x := range []struct {
		line string
		end  int
	}{
		{"a\r\n", 1}, {"\r\n", 0}, {"\n", 0}, {"a\r", 2}, {"", 0},
		{"a\n", 1}, {"ab", 2}, {"\r", 1}, {"a\n\n", 2}, {"\n\n", 1}, {"a\r\r\n", 2}, {"\r\r\n", 1}, {"a\r\r", 3},
		{"a\n\r", 3}, {"\n\r", 2}, {"a\n\r\n", 2}, {"a\r\n\n", 3}, {"a\r\nb", 4}, {"a\nb", 3}, {"a\nb\n", 3}, {"a\nb\r\n", 3},
		{" \n", 1}, {"\t\r\n", 1}, {"a\v\n", 2}, {"a\f\n", 2}, {"a \r \n", 4}, {"\xff\n", 1}, {"\u0085", 2}, {"\u2028", 3},
	} {
		if end := tab.End(x.line); end != x.end {
			t.Errorf("End(%q) = %d, not %d", x.line, end, x.end)
		}
	}
	for c := range 256 {
		b := string([]byte{byte(c)})
		for line, end := range map[string]int{"ab" + b: 3, "a" + b + "\n": 2, "a" + b + "\r": 3} {
			switch {
			case b == "\n" && line == "ab\n":
				end = 2
			case b == "\r" && line == "a\r\n":
				end = 1
			}
			if got := tab.End(line); got != end {
				t.Errorf("End(%q) = %d, not %d", line, got, end)
			}
		}
	}
}
