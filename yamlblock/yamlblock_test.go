package yamlblock_test

import (
	"slices"
	"strconv"
	"strings"
	"testing"

	"indenture/api"
	"indenture/yamlblock"
)

// words tell nodes' kinds.
var words = map[uint8]string{
	api.KindError: "error", api.YamlMap: "map", api.YamlPair: "pair", api.YamlSeq: "seq", api.YamlItem: "item", api.YamlKey: "key", api.YamlDash: "dash",
	api.YamlPlain: "plain", api.YamlQuoted: "quoted", api.YamlHead: "head", api.YamlBlock: "block", api.YamlLine: "line", api.YamlComment: "comment", api.YamlMark: "mark",
}

// lineEnds are what may stand behind what a line has of its own: its end, and what plays no part.
var lineEnds = []string{"", "\n", "\r\n", "\n\n", "\nx: y", "\r\n  - y", "\n\r\n", "\n\t|"}

// turn goes on to the next number of a row that looks unordered, and answers one from 0 to n - 1.
func turn(seed *uint64, n int) int {
	*seed = *seed*6364136223846793005 + 1442695040888963407
	return int(*seed >> 33 % uint64(n))
}

// blanks are n of the bytes 32.
func blanks(n int) string { return strings.Repeat(" ", n) }

// told tells events as words: "open map 0, open pair 0, key 0 1, close 0".
func told(ev []api.Event) string {
	var l []string
	for _, e := range ev {
		// A To that is 0, as one that means nothing has to be, is not told of what opens or closes.
		tell := func(what ...string) {
			what = append(what, strconv.Itoa(e.At))
			if e.To != 0 || e.Op == api.OpLeaf {
				what = append(what, strconv.Itoa(e.To))
			}
			l = append(l, strings.Join(what, " "))
		}
		switch {
		case e.Op == api.OpOpen:
			tell("open", words[e.Kind])
		case e.Op == api.OpClose && e.Kind == 0:
			tell("close")
		case e.Op == api.OpClose:
			tell("close", words[e.Kind])
		case e.Op == api.OpLeaf:
			tell(words[e.Kind])
		default:
			tell("op", strconv.Itoa(int(e.Op)))
		}
	}
	return strings.Join(l, ", ")
}

// state is the one that is told by signs: %2 a mapping of the column 2, -2 a sequence; ! it awaits; = something stands in a document without frames; |3 within a block scalar, its Count 3.
func state(signs string) api.State {
	m := model{waits: signs == ""}
	for _, x := range strings.Fields(signs) {
		n, _ := strconv.Atoi(x[1:])
		switch x[0] {
		case '%', '-':
			m.levels = append(m.levels, level{x[0], n})
		case '!':
			m.waits = true
		case '|':
			m.scalar, m.count = true, n
		}
	}
	return m.state()
}

// hold holds what a line tells, told as words, and the state behind it, told by signs.
func hold(t *testing.T, s, line, want, behind string) {
	t.Helper()
	ev, now := yamlblock.Scan(state(s), line)
	if told(ev) != want {
		t.Errorf("Scan(%s, %.80q) tells\n%s, not\n%s", s, line, told(ev), want)
	}
	if now != state(behind) {
		t.Errorf("behind Scan(%s, %.80q) the state is\n%v, not\n%v", s, line, now, state(behind))
	}
}

// holdEnds is hold, whatever stands behind the line's own bytes.
func holdEnds(t *testing.T, s, line, want, behind string) {
	t.Helper()
	for _, end := range lineEnds {
		hold(t, s, line+end, want, behind)
	}
}

// holdModel holds what a line tells against what it tells by the words alone.
func holdModel(t *testing.T, s api.State, line string) {
	t.Helper()
	ev, now := yamlblock.Scan(s, line)
	if want, behind := scan(s, line); !slices.Equal(ev, want) || now != behind {
		t.Fatalf("Scan(%v, %.200q) =\n%s, %v, not\n%s, %v", s, line, told(ev), now, told(want), behind)
	}
}

// row is a line, what it tells, told as words, and the state behind it, told by signs.
type row struct{ line, told, behind string }

// holdRows holds what lines tell that stand one behind the other, from the zero state on; and what a line's end changes: nothing.
func holdRows(t *testing.T, rows ...row) {
	t.Helper()
	s := ""
	for _, x := range rows {
		holdEnds(t, s, x.line, x.told, x.behind)
		s = x.behind
	}
}

// P14.1 to P14.4: the chapter's examples.
func TestExamples(t *testing.T) {
	holdRows(t,
		row{"a: 1", "open map 0, open pair 0, key 0 1, plain 3 4", "%0"},
		row{"b:", "close 0, open pair 0, key 0 1", "%0 !"},
		row{"- x", "open seq 0, open item 0, dash 0 1, plain 2 3", "%0 -0"},
	)
	holdRows(t,
		row{"- a: 1", "open seq 0, open item 0, dash 0 1, open map 2, open pair 2, key 2 3, plain 5 6", "-0 %2"},
		row{"  b: 2", "close 2, open pair 2, key 2 3, plain 5 6", "-0 %2"},
	)
	holdRows(t,
		row{"a: | # x", "open map 0, open pair 0, key 0 1, head 3 4, comment 5 8, open block 8", "%0 |0"},
		row{"  b: c", "line 2 6", "%0 |2"},
		row{"d: 1", "close 0, close 0, open pair 0, key 0 1, plain 3 4", "%0"},
	)
	holdRows(t,
		row{"a: b", "open map 0, open pair 0, key 0 1, plain 3 4", "%0"},
		row{"  c", "plain 2 3", "%0"},
		row{"  d: 1", "error 2 6", "%0"},
	)
	holdRows(t, row{"a: b: c", "open map 0, open pair 0, key 0 1, error 3 7", "%0 !"})
	holdRows(t, row{"- - x", "open seq 0, open item 0, dash 0 1, open seq 2, open item 2, dash 2 3, plain 4 5", "-0 -2"})
}

// P14.1 to P14.4: an ordinary file, line by line.
func TestOrdinaryFile(t *testing.T) {
	holdRows(t,
		row{"# a file", "comment 0 8", ""},
		row{"---", "mark 0 3", ""},
		row{"name: 'x y' # z", "open map 0, open pair 0, key 0 4, quoted 6 11, comment 12 15", "%0"},
		row{"on:", "close 0, open pair 0, key 0 2", "%0 !"},
		row{"", "", "%0 !"},
		row{"      # far", "comment 6 11", "%0 !"},
		row{"  push:", "open map 2, open pair 2, key 2 6", "%0 %2 !"},
		row{"    branches:", "open map 4, open pair 4, key 4 12", "%0 %2 %4 !"},
		row{"    - main", "open seq 4, open item 4, dash 4 5, plain 6 10", "%0 %2 %4 -4"},
		row{"    -", "close 4, open item 4, dash 4 5", "%0 %2 %4 -4 !"},
		row{"        dev", "plain 8 11", "%0 %2 %4 -4"},
		row{"         and more # x", "plain 9 17, comment 18 21", "%0 %2 %4 -4"},
		row{"    - - 1", "close 4, open item 4, dash 4 5, open seq 6, open item 6, dash 6 7, plain 8 9", "%0 %2 %4 -4 -6"},
		row{"      - k: v", "close 6, open item 6, dash 6 7, open map 8, open pair 8, key 8 9, plain 11 12", "%0 %2 %4 -4 -6 %8"},
		row{"    tags: # none", "close 0, close 0, close 0, close 0, close 0, close 0, close 4, open pair 4, key 4 8, comment 10 16", "%0 %2 %4 !"},
		row{"  pull : \"a\\\"b\"", "close 0, close 0, close 2, open pair 2, key 2 6, quoted 9 15", "%0 %2"},
		row{"run: |2-  # why", "close 0, close 0, close 0, open pair 0, key 0 3, head 5 8, comment 10 15, open block 15", "%0 |2"},
		row{"", "", "%0 |2"},
		row{"  - echo: 'x", "line 2 12", "%0 |2"},
		row{" \t ", "", "%0 |2"},
		row{"\t  ", "", "%0 |2"},
		row{"    # y ", "line 2 8", "%0 |2"},
		row{" # z", "close 0, comment 1 4", "%0"},
		row{"...", "close 0, close 0, mark 0 3", ""},
		row{"just text", "plain 0 9", "="},
		row{"and more", "plain 0 8", "="},
		row{"a: b", "error 0 4", "="},
		row{"--- # next", "mark 0 3, comment 4 10", ""},
		row{"- 1", "open seq 0, open item 0, dash 0 1, plain 2 3", "-0"},
	)
}

// someStates are states of every kind, by signs.
var someStates = []string{
	"", "=", "%0", "%0 !", "-0", "-0 !", "%0 -0", "%0 -0 !", "%2", "%2 !", "-2 !", "%2 -2", "%2 -2 !", "-0 %2", "-0 %2 !", "%0 %2 -2 %4", "%0 %2 -2 %4 !", "-1 -3 -5", "-1 -3 -5 !", "%0 %1 %3 -3 !",
	"= |0", "= |1", "= |3", "%0 |0", "%0 |2", "-2 |0", "-2 |3", "%0 -0 |0", "%0 %2 -2 |4", "-0 %2 |1", "%3 |1", "%0 |9",
}

// P14.1: an empty line tells nothing, and the state stays, whatever it is.
func TestEmptyLines(t *testing.T) {
	for _, s := range someStates {
		for _, line := range []string{"", " ", "\t", "   ", " \t", "\t ", "         ", "\t\t\t", "  \t  "} {
			holdEnds(t, s, line, "", s)
		}
	}
	// A byte 13 belongs to the line's end right ahead of an LF alone; other white bytes are no blanks.
	hold(t, "%0 !", "\r", "plain 0 1", "%0")
	hold(t, "%0", "  \r\r\n", "plain 2 3", "%0")
	hold(t, "= |0", " \r", "line 1 2", "= |1")
	for _, line := range []string{"\f", "\v", "\x00", "\u00a0", "\x85"} {
		to := strconv.Itoa(len(line))
		holdEnds(t, "", line, "plain 0 "+to, "=")
		holdEnds(t, "= |0", line, "line 0 "+to, "= |0")
	}
}

// P14.1: the first line of a block scalar that is not empty says how deep its lines stand: deeper than the column that is open.
func TestFirstLinesOfScalars(t *testing.T) {
	for _, x := range []struct {
		s   string
		col int // the column that is open
	}{{"=", -1}, {"%0", 0}, {"-2", 2}, {"%0 -0", 0}, {"-0 %2", 2}, {"%0 %2 -2 %4", 4}} {
		for col := range 8 {
			for _, own := range []string{"x", "- x", "a: b", "# c", "|", "'", "---", "\tx", ": ", "\r", "x \t "} {
				line, to := blanks(col)+own, strconv.Itoa(col+len(own))
				if col > x.col {
					at := strconv.Itoa(col)
					hold(t, x.s+" |0", line, "line "+at+" "+to, x.s+" |"+at)
				} else {
					// It is of the scalar no more, and is told as from the state without it.
					ev, behind := yamlblock.Scan(state(x.s), line)
					got, now := yamlblock.Scan(state(x.s+" |0"), line)
					if told(got) != strings.TrimSuffix("close 0, "+told(ev), ", ") || now != behind {
						t.Errorf("Scan(%s |0, %q) = %s, %v", x.s, line, told(got), now)
					}
				}
			}
		}
	}
	holdEnds(t, "= |0", "x", "line 0 1", "= |0")
	holdEnds(t, "= |0", "  x ", "line 2 4", "= |2")
	holdEnds(t, "%0 |0", " x", "line 1 2", "%0 |1")
	holdEnds(t, "%0 |0", "x", "close 0, error 0 1", "%0")
	holdEnds(t, "%0 |0", "\tx", "close 0, error 0 2", "%0")
	holdEnds(t, "%0 |0", " \tx", "line 1 3", "%0 |1")
}

// P14.1: the other lines of a block scalar, and of one whose sign says how deep they stand: as deep as that, whatever the column that is open.
func TestLinesOfScalars(t *testing.T) {
	for _, x := range []string{"=", "%0", "-2", "%0 -0", "-0 %2", "%0 %2 -2 %4"} {
		for count := 1; count < 7; count++ {
			s := x + " |" + strconv.Itoa(count)
			for col := range 9 {
				for _, own := range []string{"x", "- x", "a: b", "# c", "|", "'", "---", "\tx", ": ", "x \t "} {
					line, to := blanks(col)+own, strconv.Itoa(col+len(own))
					if col >= count {
						holdEnds(t, s, line, "line "+strconv.Itoa(count)+" "+to, s)
						continue
					}
					ev, behind := yamlblock.Scan(state(x), line)
					got, now := yamlblock.Scan(state(s), line)
					if told(got) != strings.TrimSuffix("close 0, "+told(ev), ", ") || now != behind {
						t.Errorf("Scan(%s, %q) = %s, %v", s, line, told(got), now)
					}
				}
			}
		}
	}
	// A tab is no column.
	holdEnds(t, "%0 |1", "\tx", "close 0, error 0 2", "%0")
	holdEnds(t, "%0 |2", " \tx", "close 0, error 1 3", "%0")
	holdEnds(t, "= |1", "x", "close 0, plain 0 1", "=")
	holdEnds(t, "%0 |2", " x", "close 0, plain 1 2", "%0")
	holdEnds(t, "%0 |2", "# x", "close 0, comment 0 3", "%0")
	holdEnds(t, "-0 %2 |4", "---", "close 0, close 0, close 0, close 0, close 0, mark 0 3", "")
	holdEnds(t, "-0 %2 |4", "- x", "close 0, close 0, close 0, close 0, open item 0, dash 0 1, plain 2 3", "-0")
}

// P14.2: a tab at the place, whatever is behind it.
func TestTabs(t *testing.T) {
	for _, s := range someStates {
		if strings.Contains(s, "|") {
			continue
		}
		holdEnds(t, s, "\tx", "error 0 2", s)
		holdEnds(t, s, "  \t x: y \t", "error 2 8", s)
		holdEnds(t, s, " \t# x", "error 1 5", s)
		holdEnds(t, s, "\t---", "error 0 4", s)
		holdEnds(t, s, "    \t- ", "error 4 6", s)
	}
	// Behind what stands at the place a tab is a blank like others.
	holdEnds(t, "", "-\tx", "open seq 0, open item 0, dash 0 1, plain 2 3", "-0")
	holdEnds(t, "", "-\t- x", "open seq 0, open item 0, dash 0 1, open seq 2, open item 2, dash 2 3, plain 4 5", "-0 -2")
	holdEnds(t, "", "- \t a:\t1", "open seq 0, open item 0, dash 0 1, open map 4, open pair 4, key 4 5, plain 7 8", "-0 %4")
	holdEnds(t, "", "a\t:\tb\t#c", "open map 0, open pair 0, key 0 1, plain 4 5, comment 6 8", "%0")
}

// P14.2: a comment that stands alone, whatever is open, and however deep it stands.
func TestCommentsAlone(t *testing.T) {
	for _, s := range someStates {
		if strings.Contains(s, "|") {
			continue
		}
		for col := range 6 {
			at := strconv.Itoa(col)
			holdEnds(t, s, blanks(col)+"#", "comment "+at+" "+strconv.Itoa(col+1), s)
			holdEnds(t, s, blanks(col)+"# a: b \t", "comment "+at+" "+strconv.Itoa(col+8), s)
			holdEnds(t, s, blanks(col)+"#- \r\t", "comment "+at+" "+strconv.Itoa(col+5), s)
		}
	}
}

// P14.2: marks between documents: all that is open closes, and a document begins.
func TestMarks(t *testing.T) {
	for _, s := range someStates {
		if strings.Contains(s, "|") {
			continue
		}
		closes := strings.Repeat("close 0, ", 2*state(s).Depth)
		for _, mark := range []string{"---", "..."} {
			holdEnds(t, s, mark, closes+"mark 0 3", "")
			holdEnds(t, s, mark+" \t", closes+"mark 0 3", "")
			holdEnds(t, s, mark+" # a ", closes+"mark 0 3, comment 4 8", "")
			holdEnds(t, s, mark+"\t#", closes+"mark 0 3, comment 4 5", "")
			for _, own := range []string{"x", "a: b", "- x", "-", "'x'", "'x", "|", "> # x", "---", "...", ": x", "x # y", "x #y \t"} {
				holdEnds(t, s, mark+"  "+own, closes+"mark 0 3, error 5 "+strconv.Itoa(5+len(strings.TrimRight(own, " \t"))), "")
			}
		}
	}
	// What looks like a mark, and is none.
	holdEnds(t, "%0 !", " ---", "plain 1 4", "%0")
	holdEnds(t, "%0 !", "---x", "plain 0 4", "%0")
	holdEnds(t, "", "--- : x", "mark 0 3, error 4 7", "")
	holdEnds(t, "", "...: x", "open map 0, open pair 0, key 0 3, plain 5 6", "%0")
	holdEnds(t, "", "----", "plain 0 4", "=")
	holdEnds(t, "", "- ---", "open seq 0, open item 0, dash 0 1, plain 2 5", "-0")
}

// P14.3: which frames a line drops, by its column: those above it; and, if no dash stands there, a sequence at its column in a mapping of the same.
func TestDrops(t *testing.T) {
	const all = "%0 %2 -2 -4 %6"
	for _, x := range []struct {
		col     int
		left    int // of the five frames
		dash    string
		another string // told of a dash and of a key, but for the closes
	}{
		{0, 1, "error 0 3", "close 0, open pair 0, key 0 1, plain 3 4"},
		{1, 1, "error 1 4", "error 1 5"},
		{2, 3, "close 2, open item 2, dash 2 3, plain 4 5", "close 2, open pair 2, key 2 3, plain 5 6"},
		{3, 3, "error 3 6", "error 3 7"},
		{4, 4, "close 4, open item 4, dash 4 5, plain 6 7", "error 4 8"},
		{5, 4, "error 5 8", "error 5 9"},
		{6, 5, "error 6 9", "close 6, open pair 6, key 6 7, plain 9 10"},
		{7, 5, "error 7 10", "error 7 11"},
	} {
		for _, awaits := range []string{"", " !"} {
			if awaits != "" && x.col >= 6 {
				continue
			}
			frames := strings.Fields(all)
			closes := strings.Repeat("close 0, ", 2*(5-x.left))
			holdEnds(t, all+awaits, blanks(x.col)+"- x", closes+x.dash, strings.Join(frames[:x.left], " "))
			left := x.left
			if x.col == 2 {
				closes += "close 0, close 0, "
				left = 2
			}
			holdEnds(t, all+awaits, blanks(x.col)+"a: b", closes+x.another, strings.Join(frames[:left], " "))
		}
	}
	// The last of all frames, and what is left behind it is a document that has something.
	holdEnds(t, "%2", "a: b", "close 0, close 0, error 0 4", "=")
	holdEnds(t, "-2 %4 !", " - x", "close 0, close 0, close 0, close 0, error 1 4", "=")
	holdEnds(t, "-2", "x", "close 0, close 0, plain 0 1", "=")
	holdEnds(t, "%3 -3 !", "  'x", "close 0, close 0, close 0, close 0, error 2 4", "=")
	// Whatever it is that is no dash, ends a sequence at its column in a mapping.
	for _, own := range []string{"x", "'x'", "'x", "|", ": x", "-x"} {
		holdEnds(t, "%2 -2", "  "+own, "close 0, close 0, error 2 "+strconv.Itoa(2+len(own)), "%2")
		holdEnds(t, "%2 -2 !", "  "+own, "close 0, close 0, error 2 "+strconv.Itoa(2+len(own)), "%2")
	}
	holdEnds(t, "%0 -0 !", "a:", "close 0, close 0, close 0, open pair 0, key 0 1", "%0 !")
	// A sequence that stands deeper than its mapping, or in none, or in a sequence, stays.
	holdEnds(t, "%0 -2", "  x", "error 2 3", "%0 -2")
	holdEnds(t, "%0 -2", "  a: b", "error 2 6", "%0 -2")
	holdEnds(t, "-2", "  x", "error 2 3", "-2")
	holdEnds(t, "-2 !", "  x", "plain 2 3", "-2")
	holdEnds(t, "-0 -2 !", "  'x'", "quoted 2 5", "-0 -2")
	holdEnds(t, "%0 -2 !", "  a: b", "error 2 6", "%0 -2 !")
	// One of a lesser column in a mapping is no such one.
	holdEnds(t, "%0 -0 !", " a: b", "open map 1, open pair 1, key 1 2, plain 4 5", "%0 -0 %1")
	holdEnds(t, "%0 -0 %1", " a: b", "close 1, open pair 1, key 1 2, plain 4 5", "%0 -0 %1")
}

// P14.4: dashes at the beginning of a line.
func TestDashes(t *testing.T) {
	deeper := func(at int) string {
		a, b := strconv.Itoa(at), strconv.Itoa(at+1)
		return "open seq " + a + ", open item " + a + ", dash " + a + " " + b
	}
	// The first one of a document, of an item, of a pair.
	holdEnds(t, "", "-", deeper(0), "-0 !")
	holdEnds(t, "", "  -", deeper(2), "-2 !")
	holdEnds(t, "-0 !", " -", deeper(1), "-0 -1 !")
	holdEnds(t, "%0 !", "   -", deeper(3), "%0 -3 !")
	// At the column of the key ahead; in a sequence it is the next item there.
	holdEnds(t, "%0 !", "-", deeper(0), "%0 -0 !")
	holdEnds(t, "%0 %2 !", "  -", deeper(2), "%0 %2 -2 !")
	holdEnds(t, "-0 !", "-", "close 0, open item 0, dash 0 1", "-0 !")
	holdEnds(t, "-0", "- ", "close 0, open item 0, dash 0 1", "-0 !")
	holdEnds(t, "%0 -0", "- # x", "close 0, open item 0, dash 0 1, comment 2 5", "%0 -0 !")
	holdEnds(t, "%0 -0 !", "- 'x'", "close 0, open item 0, dash 0 1, quoted 2 5", "%0 -0")
	// Where it is not awaited.
	holdEnds(t, "=", "- x", "error 0 3", "=")
	holdEnds(t, "%0", "- x \t", "error 0 3", "%0")
	holdEnds(t, "%0", "  - x # y", "error 2 9", "%0")
	holdEnds(t, "-0", "  -", "error 2 3", "-0")
	holdEnds(t, "%0 -0", "  - - x", "error 2 7", "%0 -0")
	// One of another column is none of the sequence's.
	holdEnds(t, "-1 -3", "  - x", "close 0, close 0, error 2 5", "-1")
	holdEnds(t, "-1 -3 !", "- x", "close 0, close 0, close 0, close 0, error 0 3", "=")
	// What stands behind a dash.
	holdEnds(t, "", "- a", deeper(0)+", plain 2 3", "-0")
	holdEnds(t, "", "-   \"a\" # b", deeper(0)+", quoted 4 7, comment 8 11", "-0")
	holdEnds(t, "", "- 'a", deeper(0)+", error 2 4", "-0 !")
	holdEnds(t, "", "- : a ", deeper(0)+", error 2 5", "-0 !")
	holdEnds(t, "", "- >2", deeper(0)+", head 2 4, open block 4", "-0 |2")
	holdEnds(t, "", "-  | # a ", deeper(0)+", head 3 4, comment 5 9, open block 9", "-0 |0")
	holdEnds(t, "", "- ---", deeper(0)+", plain 2 5", "-0")
	// In one line, each stands deeper than the one ahead.
	holdEnds(t, "", "- - - a: b", deeper(0)+", "+deeper(2)+", "+deeper(4)+", open map 6, open pair 6, key 6 7, plain 9 10", "-0 -2 -4 %6")
	holdEnds(t, "-0", "-  - x", "close 0, open item 0, dash 0 1, "+deeper(3)+", plain 5 6", "-0 -3")
	holdEnds(t, "-0 -2", "- - x", "close 0, close 0, close 0, open item 0, dash 0 1, "+deeper(2)+", plain 4 5", "-0 -2")
	holdEnds(t, "-0 -2", "  - - -", "close 2, open item 2, dash 2 3, "+deeper(4)+", "+deeper(6), "-0 -2 -4 -6 !")
	holdEnds(t, "%0 !", "- - x", deeper(0)+", "+deeper(2)+", plain 4 5", "%0 -0 -2")
}

// P14.4: keys at the beginning of a line, and behind dashes.
func TestKeys(t *testing.T) {
	first := func(at int) string {
		a, b := strconv.Itoa(at), strconv.Itoa(at+1)
		return "open map " + a + ", open pair " + a + ", key " + a + " " + b
	}
	holdEnds(t, "", "a:", first(0), "%0 !")
	holdEnds(t, "", "   a:", first(3), "%3 !")
	holdEnds(t, "%0 !", " a:", first(1), "%0 %1 !")
	holdEnds(t, "-0 !", "  a:", first(2), "-0 %2 !")
	holdEnds(t, "%0 -0 !", "  a:", first(2), "%0 -0 %2 !")
	holdEnds(t, "%0 -0 !", "- a:", "close 0, open item 0, dash 0 1, "+first(2), "%0 -0 %2 !")
	// The next one of the mapping, whether the one ahead has what belongs to it, or not.
	holdEnds(t, "%0", "a:", "close 0, open pair 0, key 0 1", "%0 !")
	holdEnds(t, "%0 !", "a:", "close 0, open pair 0, key 0 1", "%0 !")
	holdEnds(t, "-0 %2", "  'a b': c", "close 2, open pair 2, key 2 7, plain 9 10", "-0 %2")
	// Where it is not awaited, or stands no deeper.
	holdEnds(t, "=", "a: b", "error 0 4", "=")
	holdEnds(t, "%0", "  a: b # c ", "error 2 10", "%0")
	holdEnds(t, "-0", "  a:", "error 2 4", "-0")
	holdEnds(t, "-0 !", "a: b", "error 0 4", "-0 !")
	holdEnds(t, "-0", "a: b", "error 0 4", "-0")
	holdEnds(t, "-2 !", "  a: b", "error 2 6", "-2 !")
	holdEnds(t, "-0 %2", " a: b", "close 0, close 0, error 1 5", "-0")
	// A key's colon may stand apart from it.
	holdEnds(t, "", "a b \t:  c d ", "open map 0, open pair 0, key 0 3, plain 8 11", "%0")
	holdEnds(t, "", "\"a: #\"  :", "open map 0, open pair 0, key 0 6", "%0 !")
	// Values.
	holdEnds(t, "", "a: # b", first(0)+", comment 3 6", "%0 !")
	holdEnds(t, "", "a:   b c # d", first(0)+", plain 5 8, comment 9 12", "%0")
	holdEnds(t, "", "a: 'b' #d ", first(0)+", quoted 3 6, comment 7 10", "%0")
	holdEnds(t, "", "a: |", first(0)+", head 3 4, open block 4", "%0 |0")
	holdEnds(t, "", "a: >3+ ", first(0)+", head 3 6, open block 7", "%0 |3")
	holdEnds(t, "", "  a: |4 # b", "open map 2, open pair 2, key 2 3, head 5 7, comment 8 11, open block 11", "%2 |6")
	holdEnds(t, "", "- a: |4", "open seq 0, open item 0, dash 0 1, open map 2, open pair 2, key 2 3, head 5 7, open block 7", "-0 %2 |6")
	// What is no value: a dash, a key, and what is read as an error.
	holdEnds(t, "", "a: - b \t", first(0)+", error 3 6", "%0 !")
	holdEnds(t, "", "a: -", first(0)+", error 3 4", "%0 !")
	holdEnds(t, "", "a: b: c # d", first(0)+", error 3 11", "%0 !")
	holdEnds(t, "", "a: 'b': c", first(0)+", error 3 9", "%0 !")
	holdEnds(t, "", "a: 'b ", first(0)+", error 3 5", "%0 !")
	holdEnds(t, "", "a: : b", first(0)+", error 3 6", "%0 !")
	holdEnds(t, "", "a: 'b' c", first(0)+", error 3 8", "%0 !")
	holdEnds(t, "", "a: ---", first(0)+", plain 3 6", "%0")
	holdEnds(t, "", "a: --- - b", first(0)+", plain 3 10", "%0")
	holdEnds(t, "%0", "a: - b", "close 0, open pair 0, key 0 1, error 3 6", "%0 !")
	holdEnds(t, "-0", "- a: - b", "close 0, open item 0, dash 0 1, "+first(2)+", error 5 8", "-0 %2 !")
	// Behind such an error what belongs to the key may still come.
	holdRows(t,
		row{"a: - b", first(0) + ", error 3 6", "%0 !"},
		row{"- c", "open seq 0, open item 0, dash 0 1, plain 2 3", "%0 -0"},
	)
}

// P14.4: the sign of a block scalar at the beginning of a line, and how deep the lines stand that it asks for.
func TestHeads(t *testing.T) {
	holdEnds(t, "", "|", "head 0 1, open block 1", "= |0")
	holdEnds(t, "", "  >", "head 2 3, open block 3", "= |0")
	holdEnds(t, "", "|2", "head 0 2, open block 2", "= |2")
	holdEnds(t, "", "  |9- # x ", "head 2 5, comment 6 10, open block 10", "= |9")
	holdEnds(t, "-3 !", "     |+2 ", "head 5 8, open block 9", "-3 |5")
	holdEnds(t, "%0 -0 !", "  >-", "head 2 4, open block 4", "%0 -0 |0")
	holdEnds(t, "%0 %4 !", "     |1\t#", "head 5 7, comment 8 9, open block 9", "%0 %4 |5")
	// It may stand no deeper than what awaits it.
	holdEnds(t, "%2 !", "  |", "head 2 3, open block 3", "%2 |0")
	holdEnds(t, "-2 !", "  |7", "head 2 4, open block 4", "-2 |9")
	// Where it is not awaited.
	holdEnds(t, "=", "|", "error 0 1", "=")
	holdEnds(t, "%0", "  >2 # x ", "error 2 8", "%0")
	holdEnds(t, "-0", "  |", "error 2 3", "-0")
	holdEnds(t, "%0 -0 !", "|", "close 0, close 0, error 0 1", "%0")
}

// P14.4: scalars that are awaited, and those that are not.
func TestScalars(t *testing.T) {
	for _, x := range []struct{ awaited, behind string }{{"", "="}, {"%0 !", "%0"}, {"-0 !", "-0"}, {"%0 -0 !", "%0 -0"}, {"-0 %2 !", "-0 %2"}} {
		holdEnds(t, x.awaited, "    a b", "plain 4 7", x.behind)
		holdEnds(t, x.awaited, "    a b # c", "plain 4 7, comment 8 11", x.behind)
		holdEnds(t, x.awaited, "    'a b' ", "quoted 4 9", x.behind)
		holdEnds(t, x.awaited, "    \"a\"\t# c", "quoted 4 7, comment 8 11", x.behind)
		// Where nothing is awaited: a plain scalar that stands deeper goes on; all else is wrong.
		holdEnds(t, x.behind, "    a b", "plain 4 7", x.behind)
		holdEnds(t, x.behind, "    a # c ", "plain 4 5, comment 6 10", x.behind)
		holdEnds(t, x.behind, "    'a' # c ", "error 4 11", x.behind)
		holdEnds(t, x.behind, "    \"a\"", "error 4 7", x.behind)
		// What is no scalar.
		for _, s := range []string{x.awaited, x.behind} {
			holdEnds(t, s, "    'a", "error 4 6", s)
			holdEnds(t, s, "    : a # b", "error 4 11", s)
			holdEnds(t, s, "    \"a\" b \t", "error 4 9", s)
		}
	}
	// At the column of what awaits it, it is taken; one that goes on stands deeper.
	holdEnds(t, "%0 !", "a", "plain 0 1", "%0")
	holdEnds(t, "%2 !", "  'a'", "quoted 2 5", "%2")
	holdEnds(t, "-2 !", "  a", "plain 2 3", "-2")
	holdEnds(t, "%0", "a", "error 0 1", "%0")
	holdEnds(t, "%0", " a", "plain 1 2", "%0")
	holdEnds(t, "%2", "  a # b", "error 2 7", "%2")
	holdEnds(t, "-0", "a", "error 0 1", "-0")
	holdEnds(t, "-0", " a", "plain 1 2", "-0")
	holdEnds(t, "=", "a", "plain 0 1", "=")
	holdEnds(t, "-0 %2", " a", "close 0, close 0, plain 1 2", "-0")
	// What is dropped awaits nothing more.
	holdEnds(t, "-0 %2 !", " 'a'", "close 0, close 0, error 1 4", "-0")
	holdEnds(t, "%1 !", "'a'", "close 0, close 0, error 0 3", "=")
}

// nested are the signs of n sequences, each one column deeper.
func nested(n, from int) string {
	var l []string
	for i := range n {
		l = append(l, "-"+strconv.Itoa(from+i))
	}
	return strings.Join(l, " ")
}

// P14.4: as many frames as there is room for, and beyond.
func TestNoRoom(t *testing.T) {
	full := nested(16, 0)
	for _, own := range []string{"- x", "a: b", "-", "a:", "- - x"} {
		to := strconv.Itoa(20 + len(own))
		holdEnds(t, full+" !", blanks(20)+own, "error 20 "+to, full+" !")
	}
	holdEnds(t, full, blanks(15)+"- a: b", "close 15, open item 15, dash 15 16, error 17 21", full+" !")
	holdEnds(t, full, blanks(15)+"- - b", "close 15, open item 15, dash 15 16, error 17 20", full+" !")
	holdEnds(t, full, blanks(15)+"- b", "close 15, open item 15, dash 15 16, plain 17 18", full)
	holdEnds(t, full+" !", blanks(20)+"b", "plain 20 21", full)
	holdEnds(t, full+" !", blanks(20)+"|2", "head 20 22, open block 22", full+" |17")
	holdEnds(t, full+" !", "- x", strings.Repeat("close 0, ", 30)+"close 0, open item 0, dash 0 1, plain 2 3", "-0")
	// One fewer, and there is room for one more.
	holdEnds(t, nested(15, 0)+" !", blanks(20)+"- - x", "open seq 20, open item 20, dash 20 21, error 22 25", nested(15, 0)+" -20 !")
	holdEnds(t, nested(15, 0)+" !", blanks(20)+"a: b", "open map 20, open pair 20, key 20 21, plain 23 24", nested(15, 0)+" %20")
	holdEnds(t, nested(15, 0), blanks(14)+"- a: b", "close 14, open item 14, dash 14 15, open map 16, open pair 16, key 16 17, plain 19 20", nested(15, 0)+" %16")
	// A sequence at the column of its key needs room, too.
	keys := nested(14, 0) + " %14"
	holdEnds(t, keys+" !", blanks(14)+"-", "open seq 14, open item 14, dash 14 15", keys+" -14 !")
	keys = nested(15, 0) + " %15"
	holdEnds(t, keys+" !", blanks(15)+"- x", "error 15 18", keys+" !")
	// As many dashes in one line as there is room for, and one more.
	var want []string
	for i := range 16 {
		a, b := strconv.Itoa(2*i), strconv.Itoa(2*i+1)
		want = append(want, "open seq "+a, "open item "+a, "dash "+a+" "+b)
	}
	_, s := yamlblock.Scan(api.State{}, strings.Repeat("- ", 16))
	if s.Depth != 16 || s.Stack[15] != (api.Frame{Kind: api.YamlSeq, Flags: 1, Col: 30}) {
		t.Errorf("behind 16 dashes the state is %v", s)
	}
	for _, line := range []string{strings.Repeat("- ", 17) + "x", strings.Repeat("- ", 1000)} {
		ev, behind := yamlblock.Scan(api.State{}, line)
		if all := strings.Join(append(want[:48:48], "error 32 "+strconv.Itoa(lastPlace(line))), ", "); told(ev) != all || behind != s {
			t.Errorf("%.80q tells\n%s, not\n%s; the state behind it is %v", line, told(ev), all, behind)
		}
	}
}

// P14.1 to P14.4: columns near MaxText.
func TestWideColumns(t *testing.T) {
	far := func(n int) string { return strconv.Itoa(most + n) }
	hold(t, "", blanks(most-2)+"a:", "open map "+far(-2)+", open pair "+far(-2)+", key "+far(-2)+" "+far(-1), "%"+far(-2)+" !")
	hold(t, "%"+far(-2)+" !", blanks(most-1)+"-", "open seq "+far(-1)+", open item "+far(-1)+", dash "+far(-1)+" "+far(0), "%"+far(-2)+" -"+far(-1)+" !")
	hold(t, "%"+far(-1)+" !", blanks(most-1)+"-", "open seq "+far(-1)+", open item "+far(-1)+", dash "+far(-1)+" "+far(0), "%"+far(-1)+" -"+far(-1)+" !")
	hold(t, "%"+far(0)+" !", blanks(most-1)+"-", "close 0, close 0, error "+far(-1)+" "+far(0), "=")
	hold(t, "%"+far(0), "a:", "close 0, close 0, error 0 2", "=")
	hold(t, "%"+far(0)+" !", "|9", "close 0, close 0, error 0 2", "=")
	hold(t, "%0 -"+far(-2)+" !", blanks(most-2)+"|9", "head "+far(-2)+" "+far(0)+", open block "+far(0), "%0 -"+far(-2)+" |"+far(7))
	for _, count := range []string{far(0), far(1), far(9)} {
		hold(t, "%0 |"+count, blanks(most-1)+"x", "close 0, plain "+far(-1)+" "+far(0), "%0")
		hold(t, "%0 |"+count, blanks(most-1)+"\n", "", "%0 |"+count)
	}
	hold(t, "%0 |"+far(-1), blanks(most-1)+"x", "line "+far(-1)+" "+far(0), "%0 |"+far(-1))
	hold(t, "%0 |0", blanks(most-1)+"x", "line "+far(-1)+" "+far(0), "%0 |"+far(-1))
	hold(t, "%"+far(-1)+" |0", blanks(most-1)+"x", "close 0, error "+far(-1)+" "+far(0), "%"+far(-1))
	hold(t, "%0 !", blanks(most), "", "%0 !")
	hold(t, "%0 !", "\t"+strings.Repeat("x", most-1), "error 0 "+far(0), "%0 !")
}

// P14.1 to P14.4: what is told is new memory each time, spare room too; what is written there shows in no other answer.
func TestAnswersAreNew(t *testing.T) {
	for _, s := range someStates {
		for _, line := range []string{"", "# a", "  x", "x:", "- - - a: b # c\n", "--- x", "|2 # x", "\tx", "    'x", "      y"} {
			ask := func() []api.Event {
				ev, _ := yamlblock.Scan(state(s), line)
				return ev
			}
			all := [][]api.Event{ask(), ask(), ask()}
			want := slices.Clone(all[0])
			for i, ev := range all {
				spare := ev[:cap(ev)]
				for k := range spare {
					spare[k] = api.Event{Op: 99, Kind: 99, At: -1, To: -1}
				}
				for _, other := range append(all[i+1:], ask()) {
					if !slices.Equal(other, want) {
						t.Fatalf("what is written to an answer shows in another one: %s, not %s", told(other), told(want))
					}
				}
			}
		}
	}
}
