package pylayout_test

import (
	"slices"
	"strconv"
	"strings"
	"testing"

	"indenture/api"
	"indenture/pylayout"
)

// words tell nodes' kinds.
var words = map[uint8]string{
	api.KindError: "error", api.PyBlock: "block", api.PySimple: "simple", api.PyHead: "head", api.PyName: "name", api.PyNumber: "number",
	api.PyString: "string", api.PyPart: "part", api.PyOp: "op", api.PyComment: "comment", api.PyJoin: "join",
}

// lineEnds are what may stand behind what a line has of its own: its end, and what plays no part.
var lineEnds = []string{"", "\n", "\r\n", "\n\n", "\nx", "\r\n  # y", "\n\r\n", "\n\t:\\"}

// turn goes on to the next number of a row that looks unordered, and answers one from 0 to n - 1.
func turn(seed *uint64, n int) int {
	*seed = *seed*6364136223846793005 + 1442695040888963407
	return int(*seed >> 33 % uint64(n))
}

// told tells events as words: "open simple 0, name 0 2, close head 2, close 0".
func told(ev []api.Event) string {
	var l []string
	for _, e := range ev {
		// A To that is 0, as one that means nothing has to be, is not told of what opens or closes.
		tell := func(what ...string) {
			what = append(what, strconv.Itoa(e.At))
			if e.To != 0 || e.Op == api.OpLeaf {
				what = append(what, strconv.Itoa(e.To))
			}
			l = append(l, strings.Join(what, " "))
		}
		switch {
		case e.Op == api.OpOpen:
			tell("open", words[e.Kind])
		case e.Op == api.OpClose && e.Kind == 0:
			tell("close")
		case e.Op == api.OpClose:
			tell("close", words[e.Kind])
		case e.Op == api.OpLeaf:
			tell(words[e.Kind])
		default:
			tell("op", strconv.Itoa(int(e.Op)))
		}
	}
	return strings.Join(l, ", ")
}

// cols is a state of Mode 0 with frames of these columns.
func cols(l ...int) api.State { return model{cols: l}.state() }

// behindHead is s, the logical line ahead being a head.
func behindHead(s api.State) api.State {
	s.Flags = 1
	return s
}

// inLine is s within a logical line.
func inLine(s api.State, mark byte, depth int, flags uint8) api.State {
	s.Mode, s.Mark, s.Count, s.Flags = 1, mark, depth, flags
	return s
}

// full is a state of as many frames as there is room for, of the columns 2, 4 and so on.
func full() api.State {
	var l []int
	for i := range api.MaxStack {
		l = append(l, 2*i+2)
	}
	return cols(l...)
}

// hold holds what a line tells, told as words, and the state behind it.
func hold(t *testing.T, s api.State, line, want string, behind api.State) {
	t.Helper()
	ev, now := pylayout.Scan(s, line)
	if told(ev) != want {
		t.Errorf("Scan(%v, %.80q) tells\n%s, not\n%s", s, line, told(ev), want)
	}
	if now != behind {
		t.Errorf("behind Scan(%v, %.80q) the state is\n%v, not\n%v", s, line, now, behind)
	}
}

// holdModel holds what a line tells against what it tells by the words alone.
func holdModel(t *testing.T, s api.State, line string) {
	t.Helper()
	ev, now := pylayout.Scan(s, line)
	if want, behind := scan(s, line); !slices.Equal(ev, want) || now != behind {
		t.Fatalf("Scan(%v, %.200q) =\n%s, %v, not\n%s, %v", s, line, told(ev), now, told(want), behind)
	}
}

// row is a line, what it tells, told as words, and the state behind it.
type row struct {
	line, told string
	behind     api.State
}

// holdRows holds what lines tell that stand one behind the other, from the zero state on; and what a line's end changes: nothing.
func holdRows(t *testing.T, rows ...row) {
	t.Helper()
	var s api.State
	for _, x := range rows {
		for _, end := range lineEnds {
			hold(t, s, x.line+end, x.told, x.behind)
		}
		s = x.behind
	}
}

// P12.1 to P12.3: the chapter's examples of what lines tell.
func TestExamples(t *testing.T) {
	holdRows(t,
		row{"if a:", "open simple 0, name 0 2, name 3 4, op 4 5, close head 5", behindHead(cols())},
		row{"  b", "open block 0, open simple 2, name 2 3, close simple 3", cols(2)},
		row{"c", "close 0, open simple 0, name 0 1, close simple 1", cols()},
	)
	holdRows(t,
		row{"a", "open simple 0, name 0 1, close simple 1", cols()},
		row{"  b", "error 0 2, open simple 2, name 2 3, close simple 3", cols()},
	)
	holdRows(t,
		row{"if a:", "open simple 0, name 0 2, name 3 4, op 4 5, close head 5", behindHead(cols())},
		row{"b", "error 0 0, open simple 0, name 0 1, close simple 1", cols()},
	)
	holdRows(t,
		row{"if a:", "open simple 0, name 0 2, name 3 4, op 4 5, close head 5", behindHead(cols())},
		row{"  b", "open block 0, open simple 2, name 2 3, close simple 3", cols(2)},
		row{" c", "close 0, error 0 1, open simple 1, name 1 2, close simple 2", cols()},
	)
	holdRows(t,
		row{"a = (", "open simple 0, name 0 1, op 2 3, op 4 5", inLine(cols(), 0, 1, 0)},
		row{"# x", "comment 0 3", inLine(cols(), 0, 1, 0)},
		row{")", "op 0 1, close simple 1", cols()},
	)
	for _, line := range []string{"if a:", "a = ("} {
		_, s := pylayout.Scan(api.State{}, line)
		if end := pylayout.End(s); told(end) != "error 0 0" {
			t.Errorf("End behind %q = %s", line, told(end))
		}
	}
}

// P12.1 to P12.3: an ordinary file, line by line.
func TestOrdinaryFile(t *testing.T) {
	holdRows(t,
		row{"#!/usr/bin/python", "comment 0 17", cols()},
		row{"", "", cols()},
		row{"@f(1)", "open simple 0, op 0 1, name 1 2, op 2 3, number 3 4, op 4 5, close simple 5", cols()},
		row{"class A:  # a", "open simple 0, name 0 5, name 6 7, op 7 8, comment 10 13, close head 13", behindHead(cols())},
		row{"", "", behindHead(cols())},
		row{"\t'''doc", "open block 0, open simple 1, part 1 7", inLine(cols(8), 1, 0, 0)},
		row{"", "", inLine(cols(8), 1, 0, 0)},
		row{"if a:", "part 0 5", inLine(cols(8), 1, 0, 0)},
		row{"'''", "part 0 3, close simple 3", cols(8)},
		row{"\tdef g(x,", "open simple 1, name 1 4, name 5 6, op 6 7, name 7 8, op 8 9", inLine(cols(8), 0, 1, 0)},
		row{"  # why", "comment 2 7", inLine(cols(8), 0, 1, 0)},
		row{"y=2):", "name 0 1, op 1 2, number 2 3, op 3 4, op 4 5, close head 5", behindHead(cols(8))},
		row{"      # c", "comment 6 9", behindHead(cols(8))},
		row{"\t  if x: \\", "open block 0, open simple 3, name 3 5, name 6 7, op 7 8, join 9 10", inLine(cols(8, 10), 0, 0, 2)},
		row{"    pass", "name 4 8, close simple 8", cols(8, 10)},
		row{"          while 1:", "open simple 10, name 10 15, number 16 17, op 17 18, close head 18", behindHead(cols(8, 10))},
		row{"           z='a\\", "open block 0, open simple 11, name 11 12, op 12 13, part 13 16", inLine(cols(8, 10, 11), 3, 0, 0)},
		row{"'; w", "part 0 1, op 1 2, name 3 4, close simple 4", cols(8, 10, 11)},
		row{"    ", "", cols(8, 10, 11)},
		row{"        return", "close 0, close 0, open simple 8, name 8 14, close simple 14", cols(8)},
		row{"# end", "comment 0 5", cols(8)},
		row{"b", "close 0, open simple 0, name 0 1, close simple 1", cols()},
	)
}

// someStates are states of Mode 0, with frames and without, behind a head and behind none.
func someStates() []api.State {
	l := []api.State{cols(), cols(1), cols(4), cols(8), cols(2, 5, 9), cols(3, 8, 16, 17), cols(8 * most), full()}
	for _, s := range l {
		l = append(l, behindHead(s))
	}
	return l
}

// P12.1: an empty line tells its comment alone, and the state stays, whatever it is.
func TestEmptyLines(t *testing.T) {
	for _, s := range someStates() {
		for _, end := range lineEnds {
			for _, blanks := range []string{"", " ", "\t", "    ", " \t", "\t ", "         ", "\t\t\t"} {
				n := strconv.Itoa(len(blanks))
				hold(t, s, blanks+end, "", s)
				hold(t, s, blanks+"#"+end, "comment "+n+" "+strconv.Itoa(len(blanks)+1), s)
				hold(t, s, blanks+"# a:  "+end, "comment "+n+" "+strconv.Itoa(len(blanks)+6), s)
				hold(t, s, blanks+"#\t(\\"+end, "comment "+n+" "+strconv.Itoa(len(blanks)+4), s)
				hold(t, s, blanks+"#'''\r"+end, "comment "+n+" "+commentTo(blanks+"#'''\r", end), s)
			}
		}
	}
}

// commentTo is where a comment ends that ends in a byte 13 of which the line's end may make its own.
func commentTo(own, end string) string {
	if strings.HasPrefix(end, "\n") {
		return strconv.Itoa(len(own) - 1)
	}
	return strconv.Itoa(len(own))
}

// P12.1: lines that look empty, and are not: what stands behind the indentation is neither their end nor a #.
func TestNearlyEmptyLines(t *testing.T) {
	// A byte 13 belongs to the line's end right ahead of an LF alone.
	hold(t, cols(), "\r", "open simple 0, close simple 1", cols())
	hold(t, cols(), " \r\r\n", "error 0 1, open simple 1, close simple 2", cols())
	hold(t, cols(2), "\r #", "close 0, open simple 0, comment 2 3, close simple 3", cols())
	hold(t, behindHead(cols()), " \r", "open block 0, open simple 1, close simple 2", cols(1))
	// A byte 12 is a blank to what stands in a line, but none of its indentation.
	hold(t, cols(2), "\f\n", "close 0, open simple 0, close simple 1", cols())
	hold(t, cols(2), "  \f# a\n", "open simple 2, comment 3 6, close simple 6", cols(2))
	hold(t, behindHead(cols(2)), "  \f", "error 0 2, open simple 2, close simple 3", cols(2))
	hold(t, cols(), "\v", "open simple 0, error 0 1, close simple 1", cols())
	hold(t, cols(), "\x00", "open simple 0, error 0 1, close simple 1", cols())
	hold(t, cols(), "\u00a0", "open simple 0, name 0 2, close simple 2", cols())
	hold(t, cols(), " \\", "error 0 1, open simple 1, join 1 2", inLine(cols(), 0, 0, 0))
	hold(t, cols(), "\\\r\n", "open simple 0, join 0 1", inLine(cols(), 0, 0, 0))
}

// P12.3: a line that is empty, or has a comment alone, within a logical line: it has no layout, and tells what pytoken tells.
func TestEmptyLinesWithin(t *testing.T) {
	for _, frames := range []api.State{cols(), cols(4, 8)} {
		for _, end := range lineEnds {
			for _, flags := range []uint8{0, 2} {
				kind, behind := "simple", frames
				if flags == 2 {
					kind, behind = "head", behindHead(frames)
				}
				// Behind a backslash the line ends, and what was read last tells what it is.
				hold(t, inLine(frames, 0, 0, flags), end, "close "+kind+" 0", behind)
				hold(t, inLine(frames, 0, 0, flags), " \t "+end, "close "+kind+" 3", behind)
				hold(t, inLine(frames, 0, 0, flags), "#"+end, "comment 0 1, close "+kind+" 1", behind)
				hold(t, inLine(frames, 0, 0, flags), "  # a"+end, "comment 2 5, close "+kind+" 5", behind)
				// Within brackets, and within a text, it goes on.
				bracket, long := inLine(frames, 0, 2, flags), inLine(frames, 1, 1, flags)
				hold(t, bracket, end, "", bracket)
				hold(t, bracket, "\t"+end, "", bracket)
				hold(t, bracket, "#"+end, "comment 0 1", bracket)
				hold(t, bracket, "  # )"+end, "comment 2 5", bracket)
				hold(t, long, end, "", long)
				hold(t, long, "  "+end, "part 0 2", inLine(frames, 1, 1, 0))
				hold(t, long, " #"+end, "part 0 2", inLine(frames, 1, 1, 0))
				// A text that ends in its line, but does not end there.
				short := inLine(frames, 4, 0, flags)
				hold(t, short, end, "", short)
				hold(t, short, "#"+end, "error 0 1, close simple 1", frames)
			}
		}
	}
}

// P12.2: indentations of blanks and tabs mixed; what counts is the column.
func TestIndentations(t *testing.T) {
	for _, x := range []struct {
		blanks string
		col    int
	}{
		{" ", 1}, {"       ", 7}, {"        ", 8}, {"         ", 9}, {"\t", 8}, {" \t", 8}, {"       \t", 8}, {"        \t", 16}, {"\t ", 9}, {"\t\t", 16}, {" \t \t ", 17}, {"\t       \t", 16}, {"  \t  ", 10}, {"\t\t\t    ", 28},
	} {
		at := strconv.Itoa(len(x.blanks))
		to := strconv.Itoa(len(x.blanks) + 1)
		own := "open simple " + at + ", name " + at + " " + to + ", close simple " + to
		for _, end := range lineEnds {
			line := x.blanks + "x" + end
			hold(t, behindHead(cols()), line, "open block 0, "+own, cols(x.col))
			hold(t, cols(x.col), line, own, cols(x.col))
			hold(t, cols(x.col, x.col+1), line, "close 0, "+own, cols(x.col))
			hold(t, cols(), line, "error 0 "+at+", "+own, cols())
			hold(t, behindHead(cols(x.col)), line, "error 0 "+at+", "+own, cols(x.col))
			hold(t, cols(x.col+1), line, "close 0, error 0 "+at+", "+own, cols())
		}
	}
	// A tab within the line, and other white bytes, are none of it.
	hold(t, behindHead(cols()), "\f x", "error 0 0, open simple 0, name 2 3, close simple 3", cols())
	hold(t, behindHead(cols()), " \f\tx", "open block 0, open simple 1, name 3 4, close simple 4", cols(1))
	hold(t, cols(), "\v x", "open simple 0, error 0 1, name 2 3, close simple 3", cols())
	hold(t, behindHead(cols()), " \u00a0x", "open block 0, open simple 1, name 1 4, close simple 4", cols(1))
}

// blanks are n of the bytes 32.
func blanks(n int) string { return strings.Repeat(" ", n) }

// P12.2: a column above, at, between and below those that are open, and several frames that close at once; behind no head, and behind one.
func TestColumns(t *testing.T) {
	for _, x := range []struct {
		col, left int
		above     bool
		right     bool // behind no head
	}{
		{0, 0, false, true}, {1, 0, false, false}, {2, 1, false, true}, {3, 1, false, false}, {4, 1, false, false}, {5, 2, false, true}, {6, 2, false, false}, {8, 2, false, false}, {9, 3, false, true}, {10, 3, true, false}, {40, 3, true, false},
	} {
		at, to := strconv.Itoa(x.col), strconv.Itoa(x.col+1)
		own := "open simple " + at + ", name " + at + " " + to + ", close simple " + to
		wrong := "error 0 " + at + ", "
		closes := strings.Repeat("close 0, ", 3-x.left)
		left := cols([]int{2, 5, 9}[:x.left]...)
		line := blanks(x.col) + "x\n"
		if x.right {
			hold(t, cols(2, 5, 9), line, closes+own, left)
		} else {
			hold(t, cols(2, 5, 9), line, closes+wrong+own, left)
		}
		if x.above {
			hold(t, behindHead(cols(2, 5, 9)), line, "open block 0, "+own, cols(2, 5, 9, x.col))
		} else {
			hold(t, behindHead(cols(2, 5, 9)), line, closes+wrong+own, left)
		}
	}
	for _, s := range someStates() {
		for col := range 40 {
			for _, own := range []string{"x", "x:", "(", "x \\", "'''", "'", ":", ")", "$", "'\\", "\\"} {
				holdModel(t, s, blanks(col)+own)
			}
		}
	}
}

// P12.2: behind a head with as many frames as there is room for.
func TestNoRoom(t *testing.T) {
	var l []int
	for i := range api.MaxStack {
		l = append(l, 2*i+2)
	}
	own := "open simple 33, name 33 34, close simple 34"
	hold(t, behindHead(cols(l[:15]...)), blanks(33)+"x", "open block 0, "+own, cols(append(l[:15:15], 33)...))
	hold(t, behindHead(full()), blanks(33)+"x", "error 0 33, "+own, full())
	hold(t, full(), blanks(33)+"x", "error 0 33, "+own, full())
	hold(t, behindHead(full()), blanks(33)+"x:", "error 0 33, open simple 33, name 33 34, op 34 35, close head 35", behindHead(full()))
	// At the column that is open, and below it, it is as with fewer frames.
	own = "open simple 32, name 32 33, close simple 33"
	hold(t, full(), blanks(32)+"x", own, full())
	hold(t, behindHead(full()), blanks(32)+"x", "error 0 32, "+own, full())
	hold(t, full(), "x", strings.Repeat("close 0, ", 16)+"open simple 0, name 0 1, close simple 1", cols())
	hold(t, behindHead(full()), "x", strings.Repeat("close 0, ", 16)+"error 0 0, open simple 0, name 0 1, close simple 1", cols())
	hold(t, full(), blanks(30)+"x:", "close 0, open simple 30, name 30 31, op 31 32, close head 32", behindHead(cols(l[:15]...)))
	hold(t, full(), " x", strings.Repeat("close 0, ", 16)+"error 0 1, open simple 1, name 1 2, close simple 2", cols())
}

// P12.2: columns near 8 MaxText.
func TestWideColumns(t *testing.T) {
	tabs := func(n int) string { return strings.Repeat("\t", n) }
	at := strconv.Itoa(most - 1)
	own := "open simple " + at + ", name " + at + " " + strconv.Itoa(most) + ", close simple " + strconv.Itoa(most)
	line := tabs(most-1) + "x"
	hold(t, behindHead(cols()), line, "open block 0, "+own, cols(8*most-8))
	hold(t, cols(8*most-8), line, own, cols(8*most-8))
	hold(t, cols(8*most-8, 8*most), line, "close 0, "+own, cols(8*most-8))
	hold(t, cols(8*most-9), line, "error 0 "+at+", "+own, cols(8*most-9))
	hold(t, behindHead(cols(8*most-9)), line, "open block 0, "+own, cols(8*most-9, 8*most-8))
	hold(t, cols(8*most), line, "close 0, error 0 "+at+", "+own, cols())
	hold(t, cols(8*most-1, 8*most), "x", "close 0, close 0, open simple 0, name 0 1, close simple 1", cols())
	hold(t, behindHead(cols(8*most)), "x:", "close 0, error 0 0, open simple 0, name 0 1, op 1 2, close head 2", behindHead(cols()))
	// All of the line is its indentation.
	hold(t, cols(8*most), tabs(most), "", cols(8*most))
	hold(t, behindHead(cols(7)), tabs(most-1)+"#", "comment "+at+" "+strconv.Itoa(most), behindHead(cols(7)))
	hold(t, behindHead(cols(7)), tabs(most-1)+"\n", "", behindHead(cols(7)))
	// As many blanks.
	hold(t, behindHead(cols()), blanks(most-1)+"x", "open block 0, "+own, cols(most-1))
}

// P12.2: a line that is wrong, in each way that it may be.
func TestWrongLines(t *testing.T) {
	x := func(at int) string {
		a, b := strconv.Itoa(at), strconv.Itoa(at+1)
		return "open simple " + a + ", name " + a + " " + b + ", close simple " + b
	}
	// It is indented more, but no head is ahead, or there is no room.
	hold(t, cols(), " x", "error 0 1, "+x(1), cols())
	hold(t, cols(4), "     x", "error 0 5, "+x(5), cols(4))
	hold(t, cols(4), "\tx", "error 0 1, "+x(1), cols(4))
	hold(t, behindHead(full()), blanks(40)+"x", "error 0 40, "+x(40), full())
	// It is indented less, but as nothing that is open.
	hold(t, cols(4), "  x", "close 0, error 0 2, "+x(2), cols())
	hold(t, cols(4, 6, 8), "     x", "close 0, close 0, error 0 5, "+x(5), cols(4))
	// A head is ahead, and it is not indented more.
	hold(t, behindHead(cols()), "x", "error 0 0, "+x(0), cols())
	hold(t, behindHead(cols(4)), "    x", "error 0 4, "+x(4), cols(4))
	hold(t, behindHead(cols(4)), "x", "close 0, error 0 0, "+x(0), cols())
	hold(t, behindHead(cols(4, 6)), "    x", "close 0, error 0 4, "+x(4), cols(4))
	// Both.
	hold(t, behindHead(cols(4)), "  x", "close 0, error 0 2, "+x(2), cols())
	// What is wrong may itself be a head, go on, or tell nothing else.
	hold(t, behindHead(cols()), "x:", "error 0 0, open simple 0, name 0 1, op 1 2, close head 2", behindHead(cols()))
	hold(t, cols(), " x:", "error 0 1, open simple 1, name 1 2, op 2 3, close head 3", behindHead(cols()))
	hold(t, cols(), " (", "error 0 1, open simple 1, op 1 2", inLine(cols(), 0, 1, 0))
	hold(t, cols(4), " '''", "close 0, error 0 1, open simple 1, part 1 4", inLine(cols(), 1, 0, 0))
	hold(t, behindHead(cols()), "\\", "error 0 0, open simple 0, join 0 1", inLine(cols(), 0, 0, 0))
	hold(t, behindHead(cols()), "$", "error 0 0, open simple 0, error 0 1, close simple 1", cols())
	hold(t, behindHead(cols()), "\r", "error 0 0, open simple 0, close simple 1", cols())
	// What is behind a wrong line stands as the frames say, which stayed as they were.
	holdRows(t,
		row{"  x", "error 0 2, " + x(2), cols()},
		row{"  x", "error 0 2, " + x(2), cols()},
		row{"x:", "open simple 0, name 0 1, op 1 2, close head 2", behindHead(cols())},
		row{"y:", "error 0 0, open simple 0, name 0 1, op 1 2, close head 2", behindHead(cols())},
		row{" x", "open block 0, " + x(1), cols(1)},
		row{"   x:", "error 0 3, open simple 3, name 3 4, op 4 5, close head 5", behindHead(cols(1))},
		row{"  x", "open block 0, " + x(2), cols(1, 2)},
		row{"   x", "error 0 3, " + x(3), cols(1, 2)},
		row{" x", "close 0, " + x(1), cols(1)},
	)
}

// P12.3: logical lines of several lines, by a backslash, by a bracket, by a text, and by several of these; the indentation of those behind the first counts for nothing.
func TestLogicalLines(t *testing.T) {
	holdRows(t,
		row{"a \\", "open simple 0, name 0 1, join 2 3", inLine(cols(), 0, 0, 0)},
		row{"    b \\", "name 4 5, join 6 7", inLine(cols(), 0, 0, 0)},
		row{"\\", "join 0 1", inLine(cols(), 0, 0, 0)},
		row{"  c", "name 2 3, close simple 3", cols()},
	)
	holdRows(t,
		row{"a[", "open simple 0, name 0 1, op 1 2", inLine(cols(), 0, 1, 0)},
		row{"        {(", "op 8 9, op 9 10", inLine(cols(), 0, 3, 0)},
		row{"", "", inLine(cols(), 0, 3, 0)},
		row{") # (", "op 0 1, comment 2 5", inLine(cols(), 0, 2, 0)},
		row{" } ] \\", "op 1 2, op 3 4, join 5 6", inLine(cols(), 0, 0, 0)},
		row{" )", "error 1 2, close simple 2", cols()},
	)
	holdRows(t,
		row{"x:", "open simple 0, name 0 1, op 1 2, close head 2", behindHead(cols())},
		row{"  f('''", "open block 0, open simple 2, name 2 3, op 3 4, part 4 7", inLine(cols(2), 1, 1, 0)},
		row{"a:", "part 0 2", inLine(cols(2), 1, 1, 0)},
		row{"''' \"\"\" #", "part 0 3, part 4 9", inLine(cols(2), 2, 1, 0)},
		row{"\"\"\"", "part 0 3", inLine(cols(2), 0, 1, 0)},
		row{"'a\\", "part 0 3", inLine(cols(2), 3, 1, 0)},
		row{"b\\", "part 0 2", inLine(cols(2), 3, 1, 0)},
		row{"c') \"\\", "part 0 2, op 2 3, part 4 6", inLine(cols(2), 4, 0, 0)},
		row{"\"", "part 0 1, close simple 1", cols(2)},
		row{"y", "close 0, open simple 0, name 0 1, close simple 1", cols()},
	)
	// A text that does not end in its line, and does not go on, ends the logical line.
	holdRows(t,
		row{"'a\\", "open simple 0, part 0 3", inLine(cols(), 3, 0, 0)},
		row{"b", "error 0 1, close simple 1", cols()},
	)
	// A backslash within a line, or in a comment, joins nothing.
	hold(t, cols(), "a \\ b", "open simple 0, name 0 1, error 2 3, name 4 5, close simple 5", cols())
	hold(t, cols(), "a # \\", "open simple 0, name 0 1, comment 2 5, close simple 5", cols())
	// Brackets, and what is open, from the bounds of what a state may have.
	hold(t, inLine(cols(), 0, most, 0), "(", "op 0 1", inLine(cols(), 0, most, 0))
	hold(t, inLine(cols(), 0, most, 0), ")", "op 0 1", inLine(cols(), 0, most-1, 0))
	hold(t, inLine(cols(), 4, most, 2), "\"):", "part 0 1, op 1 2, op 2 3", inLine(cols(), 0, most-1, 0))
	hold(t, inLine(cols(), 0, 1, 0), ")", "op 0 1, close simple 1", cols())
}

// P12.3: what ends in a colon, and what does not.
func TestHeads(t *testing.T) {
	is := behindHead(cols())
	// In one line.
	hold(t, cols(), ":", "open simple 0, op 0 1, close head 1", is)
	hold(t, cols(), "x:  # a", "open simple 0, name 0 1, op 1 2, comment 4 7, close head 7", is)
	hold(t, cols(), "x: \t\r\n", "open simple 0, name 0 1, op 1 2, close head 4", is)
	hold(t, cols(), "[:]:", "open simple 0, op 0 1, op 1 2, op 2 3, op 3 4, close head 4", is)
	hold(t, cols(), "x::", "open simple 0, name 0 1, op 1 2, op 2 3, close head 3", is)
	hold(t, cols(), "x: y", "open simple 0, name 0 1, op 1 2, name 3 4, close simple 4", cols())
	hold(t, cols(), "x:=", "open simple 0, name 0 1, op 1 3, close simple 3", cols())
	hold(t, cols(), "':'", "open simple 0, string 0 3, close simple 3", cols())
	hold(t, cols(), "x # :", "open simple 0, name 0 1, comment 2 5, close simple 5", cols())
	hold(t, cols(), "x: $", "open simple 0, name 0 1, op 1 2, error 3 4, close simple 4", cols())
	hold(t, cols(), "x: \\ ", "open simple 0, name 0 1, op 1 2, error 3 4, close simple 5", cols())
	// The colon stands alone on its line.
	holdRows(t,
		row{"if a \\", "open simple 0, name 0 2, name 3 4, join 5 6", inLine(cols(), 0, 0, 0)},
		row{"  :", "op 2 3, close head 3", is},
		row{" b", "open block 0, open simple 1, name 1 2, close simple 2", cols(1)},
	)
	// It is followed by lines that tell nothing, or a comment alone.
	holdRows(t,
		row{"if a: \\", "open simple 0, name 0 2, name 3 4, op 4 5, join 6 7", inLine(cols(), 0, 0, 2)},
		row{"\\", "join 0 1", inLine(cols(), 0, 0, 2)},
		row{"   \\", "join 3 4", inLine(cols(), 0, 0, 2)},
		row{"", "close head 0", is},
	)
	holdRows(t,
		row{":\\", "open simple 0, op 0 1, join 1 2", inLine(cols(), 0, 0, 2)},
		row{" # a", "comment 1 4, close head 4", is},
		row{"b", "error 0 0, open simple 0, name 0 1, close simple 1", cols()},
	)
	// Something else comes behind it, so that it is none; or a colon of its own.
	holdRows(t,
		row{"if a: \\", "open simple 0, name 0 2, name 3 4, op 4 5, join 6 7", inLine(cols(), 0, 0, 2)},
		row{"b \\", "name 0 1, join 2 3", inLine(cols(), 0, 0, 0)},
		row{"", "close simple 0", cols()},
		row{"if a: \\", "open simple 0, name 0 2, name 3 4, op 4 5, join 6 7", inLine(cols(), 0, 0, 2)},
		row{"(", "op 0 1", inLine(cols(), 0, 1, 0)},
		row{")", "op 0 1, close simple 1", cols()},
		row{"a: '''", "open simple 0, name 0 1, op 1 2, part 3 6", inLine(cols(), 1, 0, 0)},
		row{"''': # c", "part 0 3, op 3 4, comment 5 8, close head 8", is},
	)
	// Within brackets it is none; behind the last one it is.
	holdRows(t,
		row{"d = {a:", "open simple 0, name 0 1, op 2 3, op 4 5, name 5 6, op 6 7", inLine(cols(), 0, 1, 0)},
		row{":", "op 0 1", inLine(cols(), 0, 1, 0)},
		row{"", "", inLine(cols(), 0, 1, 0)},
		row{"}", "op 0 1, close simple 1", cols()},
		row{"def f(", "open simple 0, name 0 3, name 4 5, op 5 6", inLine(cols(), 0, 1, 0)},
		row{"):", "op 0 1, op 1 2, close head 2", is},
	)
	// A colon that came last is still that within brackets and texts, as long as nothing is told.
	hold(t, inLine(cols(), 0, 1, 2), "", "", inLine(cols(), 0, 1, 2))
	hold(t, inLine(cols(), 0, 1, 2), ")", "op 0 1, close simple 1", cols())
	hold(t, inLine(cols(), 0, 1, 2), " # \\", "comment 1 4", inLine(cols(), 0, 1, 2))
	hold(t, inLine(cols(), 2, 0, 2), "", "", inLine(cols(), 2, 0, 2))
	hold(t, inLine(cols(), 2, 0, 2), "a", "part 0 1", inLine(cols(), 2, 0, 0))
	// A head ahead is not the colon of the line that comes.
	hold(t, is, "\r", "error 0 0, open simple 0, close simple 1", cols())
	hold(t, is, "\\", "error 0 0, open simple 0, join 0 1", inLine(cols(), 0, 0, 0))
}

// P12.3: whatever a line within a logical line tells, the frames stay.
func TestFramesStayWithin(t *testing.T) {
	for _, s := range someStates() {
		for _, mark := range []byte{0, 1, 2, 3, 4} {
			for _, depth := range []int{0, 1, 2, most} {
				for _, flags := range []uint8{0, 2} {
					for _, line := range []string{"", "x", "        x", "x:", ":", "# c", "(", ")", "))", "):", "\\", ": \\", "''':", `"""`, `":`, "'\\", "\t\r", "$\n", "\f"} {
						holdModel(t, inLine(s, mark, depth, flags), line)
					}
				}
			}
		}
	}
}

// P12.4: End, in each Mode, behind a head and behind none.
func TestEnd(t *testing.T) {
	hold := func(s api.State, want string) {
		t.Helper()
		if ev := pylayout.End(s); told(ev) != want {
			t.Errorf("End(%v) = %s, not %s", s, told(ev), want)
		}
	}
	for _, s := range []api.State{cols(), cols(1), cols(2, 5, 9), cols(8 * most), full()} {
		hold(s, "")
		hold(behindHead(s), "error 0 0")
		for mark := range byte(5) {
			for _, depth := range []int{0, 1, most} {
				hold(inLine(s, mark, depth, 0), "error 0 0")
				hold(inLine(s, mark, depth, 2), "error 0 0")
			}
		}
	}
}

// P12.1 to P12.4: what is told is new memory each time, spare room too; what is written there shows in no other answer.
func TestAnswersAreNew(t *testing.T) {
	holdApart := func(ask func() []api.Event) {
		t.Helper()
		all := [][]api.Event{ask(), ask(), ask()}
		want := slices.Clone(all[0])
		for i, ev := range all {
			spare := ev[:cap(ev)]
			for k := range spare {
				spare[k] = api.Event{Op: 99, Kind: 99, At: -1, To: -1}
			}
			for _, other := range append(all[i+1:], ask()) {
				if !slices.Equal(other, want) {
					t.Fatalf("what is written to an answer shows in another one: %s, not %s", told(other), told(want))
				}
			}
		}
	}
	for _, s := range []api.State{cols(), behindHead(cols()), behindHead(cols(2, 5, 9)), inLine(cols(4), 0, 1, 2)} {
		for _, line := range []string{"", "# a", "  x", "x:", "    y = (1, # c\n", strings.Repeat("a ", 50), "'''"} {
			holdApart(func() []api.Event {
				ev, _ := pylayout.Scan(s, line)
				return ev
			})
		}
		holdApart(func() []api.Event { return pylayout.End(s) })
	}
}
