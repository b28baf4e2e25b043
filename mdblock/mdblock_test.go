package mdblock_test

import (
	"slices"
	"strconv"
	"strings"
	"testing"

	"indenture/api"
	"indenture/mdblock"
)

// words tell nodes' kinds.
var words = map[uint8]string{
	0: "", api.MdQuote: "quote", api.MdTight: "tight", api.MdLoose: "loose", api.MdItem: "item", api.MdPara: "para", api.MdHead: "head", api.MdUnder: "under",
	api.MdCode: "code", api.MdFence: "fence", api.MdRule: "rule", api.MdDef: "def", api.MdMark: "mark", api.MdRaw: "raw",
}

// lineEnds are what may stand behind what a line has of its own: its end, and what plays no part.
var lineEnds = []string{"", "\n", "\r\n", "\n\n", "\nx", "\r\n> y", "\n\r\n", "\n    x"}

// turn goes on to the next number of a row that looks unordered, and answers one from 0 to n - 1.
func turn(seed *uint64, n int) int {
	*seed = *seed*6364136223846793005 + 1442695040888963407
	return int(*seed >> 33 % uint64(n))
}

// told tells events as words: "open quote 0, mark 0 1, open para 2, text 2 3, close 3, close under 3".
func told(ev []api.Event) string {
	var l []string
	for _, e := range ev {
		// What means nothing, and has to be 0, is told if it is not.
		tell := func(word string, hasTo bool) {
			what := strings.Fields(word + " " + words[e.Kind])
			what = append(what, strconv.Itoa(e.At))
			if e.To != 0 || hasTo {
				what = append(what, strconv.Itoa(e.To))
			}
			if words[e.Kind] == "" && e.Kind != 0 {
				what = append(what, "of the kind", strconv.Itoa(int(e.Kind)))
			}
			l = append(l, strings.Join(what, " "))
		}
		switch e.Op {
		case api.OpOpen:
			tell("open", false)
		case api.OpClose:
			tell("close", false)
		case api.OpLeaf:
			tell("", true)
		case api.OpText:
			tell("text", true)
		default:
			tell("op "+strconv.Itoa(int(e.Op)), true)
		}
	}
	return strings.Join(l, ", ")
}

// state is the one that is told by signs: > a quote, -2 an item of the sign - and the column 2, with L, if its list is loose, and B, if a blank line came; p in a paragraph; c in code; ~3:2 in a fence of the sign ~, its Count 3 and its Flags 2.
func state(signs string) api.State {
	var m model
	for _, x := range strings.Fields(signs) {
		switch x[0] {
		case '>':
			m.levels = append(m.levels, level{sign: '>'})
		case 'p', 'c':
			m.block = x[0]
		case '~', '`':
			count, shift, _ := strings.Cut(x[1:], ":")
			m.block = x[0]
			m.count, _ = strconv.Atoi(count)
			m.shift, _ = strconv.Atoi(shift)
		default:
			col, _ := strconv.Atoi(strings.Trim(x[1:], "LB"))
			m.levels = append(m.levels, level{x[0], col, strings.Contains(x, "L"), strings.Contains(x, "B")})
		}
	}
	return m.state()
}

// someStates are states of every kind, told by signs.
var someStates = []string{
	"", "p", "c", "~3", "`4:3", ">", "> p", "> c", "> ~3:1", "> > p", "-2", "-2B", "-2LB p", "-2 p", "-2 c", "-2B c", "-2 ~3", ".3 p", "*4 -2 p", "-2B -2B", "+2B > -2", "> -2LB", "> -2 p", "-2 > p", "-2 > ~3:2", ")5L p", "> .3 > c",
	full + " p", full, strings.Repeat("-2 ", 15) + "-2B", strings.Repeat("-2 ", 15),
}

// full are as many quotes as there may be.
var full = strings.TrimSpace(strings.Repeat("> ", api.MaxStack))

// hold holds what a line tells, told as words, and the state behind it, told by signs.
func hold(t *testing.T, s, line, want, behind string) {
	t.Helper()
	ev, now := mdblock.Scan(state(s), line)
	if told(ev) != want {
		t.Errorf("Scan(%s, %.80q) tells\n%s, not\n%s", s, line, told(ev), want)
	}
	if now != state(behind) {
		t.Errorf("behind Scan(%s, %.80q) the state is\n%v, not\n%v", s, line, now, state(behind))
	}
}

// holdEnds is hold, whatever stands behind the line's own bytes.
func holdEnds(t *testing.T, s, line, want, behind string) {
	t.Helper()
	for _, end := range lineEnds {
		hold(t, s, line+end, want, behind)
	}
}

// holdModel holds what a line tells against what it tells by the words alone.
func holdModel(t *testing.T, s api.State, line string) {
	t.Helper()
	ev, now := mdblock.Scan(s, line)
	if want, behind := scan(s, line); !slices.Equal(ev, want) || now != behind {
		t.Fatalf("Scan(%v, %.200q) =\n%s, %v, not\n%s, %v", s, line, told(ev), now, told(want), behind)
	}
}

// row is a line, what it tells, told as words, and the state behind it, told by signs.
type row struct{ line, told, behind string }

// holdRows holds what lines tell that stand one behind the other, from the zero state on; and what a line's end changes: nothing.
func holdRows(t *testing.T, rows ...row) {
	t.Helper()
	s := ""
	for _, x := range rows {
		holdEnds(t, s, x.line, x.told, x.behind)
		s = x.behind
	}
}

// holdEnd holds what End tells.
func holdEnd(t *testing.T, s, want string) {
	t.Helper()
	if ev := mdblock.End(state(s)); told(ev) != want {
		t.Errorf("End(%s) tells %s, not %s", s, told(ev), want)
	}
}

// P19.1 to P19.8: the chapter's examples.
func TestExamples(t *testing.T) {
	holdRows(t,
		row{"a", "open para 0, text 0 1", "p"},
		row{"b", "text 0 1", "p"},
		row{"===", "mark 0 3, close under 3", ""},
	)
	holdRows(t,
		row{"> a", "open quote 0, mark 0 1, open para 2, text 2 3", "> p"},
		row{"b", "text 0 1", "> p"},
		row{"> > c", "close 0, mark 0 1, open quote 2, mark 2 3, open para 4, text 4 5", "> > p"},
	)
	holdRows(t,
		row{"- a", "open tight 0, open item 0, mark 0 1, open para 2, text 2 3", "-2 p"},
		row{"- b", "close 0, close 0, open item 0, mark 0 1, open para 2, text 2 3", "-2 p"},
		row{"", "close 0", "-2B"},
		row{"- c", "close 0, open item 0, mark 0 1, open para 2, text 2 3", "-2L p"},
	)
	holdEnd(t, "-2L p", "close 0, close 0, close loose 0")
	holdRows(t,
		row{"1. a", "open tight 0, open item 0, mark 0 2, open para 3, text 3 4", ".3 p"},
		row{"  b", "text 2 3", ".3 p"},
		row{"c", "text 0 1", ".3 p"},
	)
	holdRows(t,
		row{"    a", "open code 4, raw 4 5", "c"},
		row{"", "", "c"},
		row{"    b", "raw 4 5", "c"},
	)
	holdRows(t,
		row{"# a #", "open head 0, mark 0 1, text 2 3, mark 4 5, close 5", ""},
		row{"[x]: y", "def 0 6", ""},
		row{"***", "rule 0 3", ""},
	)
}

// DOC.md's example 8: an underline is lazy text behind a quote.
func TestLazyUnderline(t *testing.T) {
	holdRows(t,
		row{"> a", "open quote 0, mark 0 1, open para 2, text 2 3", "> p"},
		row{"b", "text 0 1", "> p"},
		row{"===", "text 0 3", "> p"},
	)
	holdEnds(t, "> p", "> ===", "mark 0 1, mark 2 5, close under 5", ">")
	holdEnds(t, "> -2 p", ">  ===", "mark 0 1, text 3 6", "> -2 p")
	holdEnds(t, "> -2B p", ">   ==  ", "mark 0 1, mark 4 6, close under 6", "> -2")
}

// P19.1: which quotes go on.
func TestQuotesThatGoOn(t *testing.T) {
	holdEnds(t, "> p", ">b", "mark 0 1, text 1 2", "> p")
	holdEnds(t, "> p", "   >  b ", "mark 3 4, text 6 8", "> p")
	holdEnds(t, "> p", "    > b", "text 4 7", "> p")
	holdEnds(t, "> p", "\t> b", "text 1 4", "> p")
	holdEnds(t, "> > p", ">> b", "mark 0 1, mark 1 2, text 3 4", "> > p")
	holdEnds(t, "> > p", "> b", "mark 0 1, text 2 3", "> > p")
	holdEnds(t, "> > p", ">     > b", "mark 0 1, text 6 9", "> > p")
	holdEnds(t, "> > p", ">    > b", "mark 0 1, mark 5 6, text 7 8", "> > p")
	holdEnds(t, "> >", ">\t> b", "mark 0 1, mark 2 3, open para 4, text 4 5", "> > p")
	holdEnds(t, "> > p", ">", "close 0, close 0, mark 0 1", ">")
	holdEnds(t, "> > p", "", "close 0, close 0, close 0", "")
	holdEnds(t, "> p", "> ", "close 0, mark 0 1", ">")
	holdEnds(t, "> p", " \t", "close 0, close 0", "")
	holdEnds(t, "-2 > p", "  > b", "mark 2 3, text 4 5", "-2 > p")
	holdEnds(t, "-2 > p", "      > b", "text 6 9", "-2 > p")
	holdEnds(t, "-2 > p", " > b", "close 0, close 0, close 0, close 0, open quote 1, mark 1 2, open para 3, text 3 4", "> p")
	holdEnds(t, "-2 > p", "", "close 0, close 0", "-2B")
}

// P19.1: which items go on.
func TestItemsThatGoOn(t *testing.T) {
	holdEnds(t, "-2", "  b", "open para 2, text 2 3", "-2 p")
	holdEnds(t, "-2", " b", "close 0, close 0, open para 1, text 1 2", "p")
	holdEnds(t, "-2", "     b", "open para 5, text 5 6", "-2 p")
	holdEnds(t, "-2", "      b", "open code 6, raw 6 7", "-2 c")
	holdEnds(t, "-2", "\tb", "open para 1, text 1 2", "-2 p")
	holdEnds(t, "-2", "\t  b", "open code 3, raw 3 4", "-2 c")
	holdEnds(t, "-5", "\tb", "close 0, close 0, open code 1, raw 1 2", "c")
	holdEnds(t, "-5", "\t b", "open para 2, text 2 3", "-5 p")
	holdEnds(t, "-2 .3", "     b", "open para 5, text 5 6", "-2 .3 p")
	holdEnds(t, "-2 .3", "    b", "close 0, close 0, open para 4, text 4 5", "-2 p")
	holdEnds(t, "-2 -4", "\t  b", "open para 3, text 3 4", "-2 -4 p")
	holdEnds(t, "-3 -4", "\t\tb", "open para 2, text 2 3", "-3 -4 p")
	// A line without anything goes on with all items, up to the first quote.
	holdEnds(t, "-2 .3 -4 p", "", "close 0", "-2B .3B -4B")
	holdEnds(t, "-2 .3 -4", " ", "", "-2B .3B -4B")
	holdEnds(t, "-2 > -4 p", "", "close 0, close 0, close 0, close 0", "-2B")
	holdEnds(t, "> -4", ">", "mark 0 1", "> -4B")
	holdEnds(t, "> -4", "> ", "mark 0 1", "> -4B")
}

// P19.2: code between fences.
func TestFences(t *testing.T) {
	holdRows(t,
		row{"~~~ go ", "open fence 0, mark 0 6", "~3"},
		row{"", "", "~3"},
		row{"  ", "raw 0 2", "~3"},
		row{"> # a ", "raw 0 6", "~3"},
		row{"```", "raw 0 3", "~3"},
		row{"~~", "raw 0 2", "~3"},
		row{"    ~~~", "raw 0 7", "~3"},
		row{"~~~ a", "raw 0 5", "~3"},
		row{"   ~~~~ \t", "mark 3 7, close 7", ""},
	)
	holdRows(t,
		row{"  ````", "open fence 2, mark 2 6", "`4:2"},
		row{"a", "raw 0 1", "`4:2"},
		row{" a", "raw 1 2", "`4:2"},
		row{"   a", "raw 2 4", "`4:2"},
		row{" ", "", "`4:2"},
		row{"   ", "raw 2 3", "`4:2"},
		row{"\ta", "raw 0 2", "`4:2"},
		row{" \ta", "raw 1 3", "`4:2"},
		row{"```", "raw 0 3", "`4:2"},
		row{"~~~~", "raw 0 4", "`4:2"},
		row{"````", "mark 0 4, close 4", ""},
	)
	holdRows(t,
		row{"> - ~~~", "open quote 0, mark 0 1, open tight 2, open item 2, mark 2 3, open fence 4, mark 4 7", "> -2 ~3"},
		row{">    a", "mark 0 1, raw 4 6", "> -2 ~3"},
		row{">", "mark 0 1", "> -2 ~3"},
		row{"> ", "mark 0 1", "> -2 ~3"},
		row{">  ", "mark 0 1, raw 2 3", "> -2 ~3"},
		row{">     ", "mark 0 1, raw 2 6", "> -2 ~3"},
		row{">\t\ta", "mark 0 1, raw 2 4", "> -2 ~3"},
		row{">   ~~~", "mark 0 1, mark 4 7, close 7", "> -2"},
	)
	// It ends where its frames do, and then nothing is lazy.
	holdEnds(t, "> ~3", "a", "close 0, close 0, open para 0, text 0 1", "p")
	holdEnds(t, "> ~3", "~~~", "close 0, close 0, open fence 0, mark 0 3", "~3")
	holdEnds(t, "> ~3", "", "close 0, close 0", "")
	holdEnds(t, "-2 ~3", " a", "close 0, close 0, close 0, open para 1, text 1 2", "p")
	holdEnds(t, "-2 ~3", "- a", "close 0, close 0, open item 0, mark 0 1, open para 2, text 2 3", "-2 p")
	// Its lines say nothing of blank lines.
	holdEnds(t, "-2 ~3", "", "", "-2 ~3")
	holdEnds(t, "-2B ~3", "", "", "-2B ~3")
	holdEnds(t, "-2B ~3", "  a", "raw 2 3", "-2B ~3")
	holdEnds(t, "-2B ~3", "  ~~~", "mark 2 5, close 5", "-2B")
	// A longer one, and the longest.
	holdEnds(t, "~1048576", "~~~~~", "raw 0 5", "~1048576")
	holdEnds(t, "`5", "`````", "mark 0 5, close 5", "")
	holdEnds(t, "`5", "``` a", "raw 0 5", "`5")
}

// P19.1, P19.2, P19.10: a line on which nothing stands goes on with an item, whatever blanks it has: none of them is taken for the item's column, so that between fences they are told as they stand.
func TestFencesWithinItems(t *testing.T) {
	holdEnds(t, ")2 `3", " ", "raw 0 1", ")2 `3")
	holdEnds(t, ")2 )2 `3", " ", "raw 0 1", ")2 )2 `3")
	holdEnds(t, ")4 )2 `3", "    ", "raw 0 4", ")4 )2 `3")
	holdEnds(t, ")2 `3:1", "   ", "raw 1 3", ")2 `3:1")
	holdEnds(t, ")2 `3", "   a", "raw 2 4", ")2 `3")
	// As wide as its column is, less, and more.
	holdEnds(t, ".5 ~3", "", "", ".5 ~3")
	holdEnds(t, ".5 ~3", "    ", "raw 0 4", ".5 ~3")
	holdEnds(t, ".5 ~3", "     ", "raw 0 5", ".5 ~3")
	holdEnds(t, ".5 ~3", "      ", "raw 0 6", ".5 ~3")
	holdEnds(t, ".5 ~3", "      a", "raw 5 7", ".5 ~3")
	holdEnds(t, ".5 ~3", "\t", "raw 0 1", ".5 ~3")
	holdEnds(t, ".5 ~3", "\t\t", "raw 0 2", ".5 ~3")
	holdEnds(t, ".5 ~3", "\t\ta", "raw 1 3", ".5 ~3")
	// The fence's own indentation is taken away.
	holdEnds(t, ".5 ~3:3", "  ", "", ".5 ~3:3")
	holdEnds(t, ".5 ~3:3", "   ", "", ".5 ~3:3")
	holdEnds(t, ".5 ~3:3", "    ", "raw 3 4", ".5 ~3:3")
	holdEnds(t, ".5 ~3:3", "        ", "raw 3 8", ".5 ~3:3")
	holdEnds(t, ".5 ~3:3", "\t", "raw 0 1", ".5 ~3:3")
	// Where a quote's mark stands, the items ahead of it take their columns, and the quote its blank.
	holdEnds(t, "-2 > -2 ~3", "  >", "mark 2 3", "-2 > -2 ~3")
	holdEnds(t, "-2 > -2 ~3", "  >   ", "mark 2 3, raw 4 6", "-2 > -2 ~3")
	holdEnds(t, "-2 > -2 ~3:1", "  >   ", "mark 2 3, raw 5 6", "-2 > -2 ~3:1")
	holdEnds(t, "-2 > -2 ~3", "  >   a", "mark 2 3, raw 6 7", "-2 > -2 ~3")
	holdEnds(t, "-2 > -2 ~3", " > ", "close 0, close 0, close 0, close 0, close 0, close 0, open quote 1, mark 1 2", ">")
	holdEnds(t, "-2 > ~3", "    ", "close 0, close 0", "-2B")
}

// P19.3: code that is indented.
func TestCode(t *testing.T) {
	holdRows(t,
		row{"     # a ", "open code 4, raw 4 9", "c"},
		row{"    b", "raw 4 5", "c"},
		row{"\t c", "raw 1 3", "c"},
		row{"  \tc", "raw 3 4", "c"},
		row{"  ", "", "c"},
		row{"      ", "", "c"},
		row{"      d", "raw 4 7", "c"},
		row{"   e", "close 0, open para 3, text 3 4", "p"},
		row{"    f", "text 4 5", "p"},
	)
	holdRows(t,
		row{"-     a", "open tight 0, open item 0, mark 0 1, open code 6, raw 6 7", "-2 c"},
		row{"", "", "-2B c"},
		row{"      b", "raw 6 7", "-2 c"},
		row{"  c", "close 0, open para 2, text 2 3", "-2 p"},
	)
	holdEnds(t, "-2B c", "  c", "close 0, open para 2, text 2 3", "-2L p")
	holdEnds(t, "-2 c", "     c", "close 0, open para 5, text 5 6", "-2 p")
	holdEnds(t, "-2B > -3 c", "  >", "mark 2 3", "-2B > -3B c")
	holdEnds(t, "-2 > -3 c", "  > ", "mark 2 3", "-2B > -3B c")
	holdEnds(t, "-2B > -3B c", "  >        b", "mark 2 3, raw 11 12", "-2 > -3 c")
	holdEnds(t, "> c", "    b", "close 0, close 0, open code 4, raw 4 5", "c")
	holdEnds(t, "> c", ">\t\tb", "mark 0 1, raw 2 4", "> c")
	holdEnds(t, "> c", "", "close 0, close 0", "")
}

// P19.4: paragraphs, and the underlines that make them headings.
func TestParagraphs(t *testing.T) {
	for _, x := range []row{
		{"b", "text 0 1", "p"},
		{"   b \t", "text 3 6", "p"},
		{"      b", "text 6 7", "p"},
		{"\t# b", "text 1 4", "p"},
		{"    > b", "text 4 7", "p"},
		{"    ===", "text 4 7", "p"},
		{"    ---", "text 4 7", "p"},
		{"===a", "text 0 4", "p"},
		{"= =", "text 0 3", "p"},
		{"--", "mark 0 2, close under 2", ""},
		{"---", "mark 0 3, close under 3", ""},
		{"-", "mark 0 1, close under 1", ""},
		{"- ", "mark 0 1, close under 1", ""},
		{"   == \t", "mark 3 5, close under 5", ""},
		{"#b", "text 0 2", "p"},
		{"~~", "text 0 2", "p"},
		{"**", "text 0 2", "p"},
		{"-b", "text 0 2", "p"},
		{"+", "text 0 1", "p"},
		{"* ", "text 0 2", "p"},
		{"1. \t", "text 0 4", "p"},
		{"2. b", "text 0 4", "p"},
		{"0) b", "text 0 4", "p"},
		{"10. b", "text 0 5", "p"},
		{"[a]: b", "text 0 6", "p"},
		{"\\# b", "text 0 4", "p"},
		{"```b`", "text 0 5", "p"},
	} {
		holdEnds(t, "p", x.line, x.told, x.behind)
	}
	// What begins something ends it.
	for _, x := range []row{
		{"", "close 0", ""},
		{" \t", "close 0", ""},
		{"# b", "close 0, open head 0, mark 0 1, text 2 3, close 3", ""},
		{"   #", "close 0, open head 3, mark 3 4, close 4", ""},
		{"~~~", "close 0, open fence 0, mark 0 3", "~3"},
		{" ```b", "close 0, open fence 1, mark 1 5", "`3:1"},
		{"***", "close 0, rule 0 3", ""},
		{"- - -", "close 0, rule 0 5", ""},
		{"> b", "close 0, open quote 0, mark 0 1, open para 2, text 2 3", "> p"},
		{">", "close 0, open quote 0, mark 0 1", ">"},
		{"- b", "close 0, open tight 0, open item 0, mark 0 1, open para 2, text 2 3", "-2 p"},
		{"   + b", "close 0, open tight 3, open item 3, mark 3 4, open para 5, text 5 6", "+5 p"},
		{"1. b", "close 0, open tight 0, open item 0, mark 0 2, open para 3, text 3 4", ".3 p"},
		{"001) b", "close 0, open tight 0, open item 0, mark 0 4, open para 5, text 5 6", ")5 p"},
	} {
		holdEnds(t, "p", x.line, x.told, x.behind)
	}
}

// P19.4: lines without the marks of the frames that a paragraph lies in.
func TestLazyParagraphs(t *testing.T) {
	holdEnds(t, "> -2 p", "b", "text 0 1", "> -2 p")
	holdEnds(t, "> -2 p", "> b", "mark 0 1, text 2 3", "> -2 p")
	holdEnds(t, "> -2 p", ">   b", "mark 0 1, text 4 5", "> -2 p")
	holdEnds(t, "-2B > -2LB p", "b", "text 0 1", "-2 > -2L p")
	holdEnds(t, "-2B > -2LB p", "  > b", "mark 2 3, text 4 5", "-2 > -2L p")
	holdEnds(t, "> p", "    b", "text 4 5", "> p")
	holdEnds(t, "> p", "--", "text 0 2", "> p")
	holdEnds(t, "> p", "---", "close 0, close 0, rule 0 3", "")
	holdEnds(t, "> p", "# b", "close 0, close 0, open head 0, mark 0 1, text 2 3, close 3", "")
	holdEnds(t, "> p", "~~~", "close 0, close 0, open fence 0, mark 0 3", "~3")
	holdEnds(t, "> p", "- b", "close 0, close 0, open tight 0, open item 0, mark 0 1, open para 2, text 2 3", "-2 p")
	holdEnds(t, "> p", "-", "text 0 1", "> p")
	holdEnds(t, "-2 p", "=", "text 0 1", "-2 p")
	holdEnds(t, "-2 p", "  =", "mark 2 3, close under 3", "-2")
	// An item without words, or of a number but 1, does not end a paragraph, be it of its list.
	holdEnds(t, "-2 p", "-", "text 0 1", "-2 p")
	holdEnds(t, ".3 p", "2. b", "text 0 4", ".3 p")
	holdEnds(t, ".3 p", "1. b", "close 0, close 0, open item 0, mark 0 2, open para 3, text 3 4", ".3 p")
	holdEnds(t, ".3", "2. b", "close 0, open item 0, mark 0 2, open para 3, text 3 4", ".3 p")
}

// P19.4: where as many frames go on as there may be, neither a quote nor an item begins; where fewer do, both may.
func TestParagraphsWithoutRoom(t *testing.T) {
	marks := strings.Repeat(">", api.MaxStack)
	told := "mark 0 1"
	for i := 1; i < api.MaxStack; i++ {
		told += ", mark " + strconv.Itoa(i) + " " + strconv.Itoa(i+1)
	}
	holdEnds(t, full+" p", marks+"> b", told+", text 16 19", full+" p")
	holdEnds(t, full+" p", marks+"- b", told+", text 16 19", full+" p")
	holdEnds(t, full+" p", marks+"1. b", told+", text 16 20", full+" p")
	holdEnds(t, full+" p", marks+"---", told+", mark 16 19, close under 19", full)
	holdEnds(t, full+" p", marks+"***", "close 0, "+told+", rule 16 19", full)
	holdEnds(t, full+" p", marks+"# b", "close 0, "+told+", open head 16, mark 16 17, text 18 19, close 19", full)
	holdEnds(t, full, marks+"> b", told+", open para 16, text 16 19", full+" p")
	holdEnds(t, full, marks+"- b", told+", open para 16, text 16 19", full+" p")
	holdEnds(t, full, marks+"~~~", told+", open fence 16, mark 16 19", full+" ~3")
	less := strings.TrimSuffix(full, " >")
	told = strings.TrimSuffix(told, ", mark 15 16")
	holdEnds(t, full+" p", marks[1:]+"- b", "close 0, close 0, "+told+", open tight 15, open item 15, mark 15 16, open para 17, text 17 18", less+" -2 p")
	holdEnds(t, full+" p", marks[1:]+"b", told+", text 15 16", full+" p")
	holdEnds(t, less+" -2 p", marks[1:]+"- b", "close 0, close 0, "+told+", open item 15, mark 15 16, open para 17, text 17 18", less+" -2 p")
	holdEnds(t, less+" -2 p", marks[1:]+"   - b", told+", text 18 21", less+" -2 p")
	holdEnds(t, less+" -2 p", marks[1:]+"* b", "close 0, close 0, close 0, "+told+", open tight 15, open item 15, mark 15 16, open para 17, text 17 18", less+" *2 p")
	items := strings.TrimSpace(strings.Repeat("-2 ", api.MaxStack))
	holdEnds(t, items, strings.Repeat("  ", api.MaxStack)+"- b", "open para 32, text 32 35", items+" p")
	holdEnds(t, items+" p", "* b", "close 0"+strings.Repeat(", close 0, close 0", api.MaxStack)+", open tight 0, open item 0, mark 0 1, open para 2, text 2 3", "*2 p")
}

// P19.5: what closes, and in which order.
func TestWhatCloses(t *testing.T) {
	holdEnds(t, "> -2 > c", "> > b", "close 0, close 0, close 0, close 0, mark 0 1, open quote 2, mark 2 3, open para 4, text 4 5", "> > p")
	holdEnds(t, "> -2L > .3 c", "> b", "close 0, close 0, close 0, close 0, close 0, close loose 0, mark 0 1, open para 2, text 2 3", "> p")
	holdEnds(t, "> -2 -2L", "b", "close 0, close loose 0, close 0, close 0, close 0, open para 0, text 0 1", "p")
	// A list is loose by what came to it already; what comes at its end says nothing.
	holdEnds(t, "-2B", "b", "close 0, close 0, open para 0, text 0 1", "p")
	holdEnds(t, "-2LB", "b", "close 0, close loose 0, open para 0, text 0 1", "p")
	holdEnds(t, "> ~3", "> > ~~~", "mark 0 1, raw 2 7", "> ~3")
}

// P19.5: a list that goes on.
func TestListsThatGoOn(t *testing.T) {
	holdEnds(t, "-2", "- b", "close 0, open item 0, mark 0 1, open para 2, text 2 3", "-2 p")
	holdEnds(t, "-2", " -   b", "close 0, open item 1, mark 1 2, open para 5, text 5 6", "-5 p")
	holdEnds(t, "-2", "-", "close 0, open item 0, mark 0 1", "-2")
	holdEnds(t, "-2L", "- b", "close 0, open item 0, mark 0 1, open para 2, text 2 3", "-2L p")
	holdEnds(t, "-2B", "- b", "close 0, open item 0, mark 0 1, open para 2, text 2 3", "-2L p")
	holdEnds(t, "-2LB", "- b", "close 0, open item 0, mark 0 1, open para 2, text 2 3", "-2L p")
	holdEnds(t, ".3", "77. b", "close 0, open item 0, mark 0 3, open para 4, text 4 5", ".4 p")
	// Only the first item of the line is of that list.
	holdEnds(t, "-2B", "- - b", "close 0, open item 0, mark 0 1, open tight 2, open item 2, mark 2 3, open para 4, text 4 5", "-2L -2 p")
	// Only the first frame that does not go on counts: those behind it close, with their lists.
	holdEnds(t, "-2 -2 p", "- b", "close 0, close 0, close 0, close 0, open item 0, mark 0 1, open para 2, text 2 3", "-2 p")
	holdEnds(t, "-2 -2LB", "- b", "close 0, close loose 0, close 0, open item 0, mark 0 1, open para 2, text 2 3", "-2 p")
	holdEnds(t, "-2B -2B", "  - b", "close 0, open item 2, mark 2 3, open para 4, text 4 5", "-2 -2L p")
	holdEnds(t, "-4 -2", "  - b", "close 0, close 0, close 0, open item 2, mark 2 3, open para 4, text 4 5", "-4 p")
	holdEnds(t, "> -2 p", "> - b", "close 0, close 0, mark 0 1, open item 2, mark 2 3, open para 4, text 4 5", "> -2 p")
	holdEnds(t, "> -2 p", "- b", "close 0, close 0, close 0, close 0, open tight 0, open item 0, mark 0 1, open para 2, text 2 3", "-2 p")
	holdEnds(t, "-2 > p", "- b", "close 0, close 0, close 0, open item 0, mark 0 1, open para 2, text 2 3", "-2 p")
	// Another sign, a break, code, and nothing.
	holdEnds(t, "-2", "* b", "close 0, close 0, open tight 0, open item 0, mark 0 1, open para 2, text 2 3", "*2 p")
	holdEnds(t, ".3", "1) b", "close 0, close 0, open tight 0, open item 0, mark 0 2, open para 3, text 3 4", ")3 p")
	holdEnds(t, "-2", "- - -", "close 0, close 0, rule 0 5", "")
	holdEnds(t, "-2", "---", "close 0, close 0, rule 0 3", "")
	holdEnds(t, "-2 p", "* * *", "close 0, close 0, close 0, rule 0 5", "")
	holdEnds(t, "-5", "    - b", "close 0, close 0, open code 4, raw 4 7", "c")
	holdEnds(t, "-5 p", "    - b", "text 4 7", "-5 p")
	holdEnds(t, "-2 >", "-", "close 0, close 0, open item 0, mark 0 1", "-2")
}

// P19.6: blank lines, and the lists that they make loose.
func TestBlankLines(t *testing.T) {
	holdRows(t,
		row{"- a", "open tight 0, open item 0, mark 0 1, open para 2, text 2 3", "-2 p"},
		row{"", "close 0", "-2B"},
		row{"", "", "-2B"},
		row{"  b", "open para 2, text 2 3", "-2L p"},
		row{"- c", "close 0, close 0, open item 0, mark 0 1, open para 2, text 2 3", "-2L p"},
		row{"", "close 0", "-2LB"},
		row{"d", "close 0, close loose 0, open para 0, text 0 1", "p"},
	)
	// One between blocks of an item within makes that one's list loose alone.
	holdRows(t,
		row{"- - a", "open tight 0, open item 0, mark 0 1, open tight 2, open item 2, mark 2 3, open para 4, text 4 5", "-2 -2 p"},
		row{"", "close 0", "-2B -2B"},
		row{"    b", "open para 4, text 4 5", "-2 -2L p"},
		row{"", "close 0", "-2B -2LB"},
		row{"  c", "close 0, close loose 0, open para 2, text 2 3", "-2L p"},
	)
	// Behind a nested list that ends, or goes on.
	holdEnds(t, "-2B -2B", "  b", "close 0, close 0, open para 2, text 2 3", "-2L p")
	holdEnds(t, "-2B -2B", "  - b", "close 0, open item 2, mark 2 3, open para 4, text 4 5", "-2 -2L p")
	holdEnds(t, "-2B -2B", "- b", "close 0, close 0, close 0, open item 0, mark 0 1, open para 2, text 2 3", "-2L p")
	holdEnds(t, "-2B *2B", "  - b", "close 0, close 0, open tight 2, open item 2, mark 2 3, open para 4, text 4 5", "-2L -2 p")
	// A quote is no item, and a blank line ends it.
	holdEnds(t, "-2B >", "  > b", "mark 2 3, open para 4, text 4 5", "-2 > p")
	holdEnds(t, "> -2 p", ">", "close 0, mark 0 1", "> -2B")
	holdEnds(t, "> -2B", "> b", "close 0, close 0, mark 0 1, open para 2, text 2 3", "> p")
	holdEnds(t, "> -2B", ">   b", "mark 0 1, open para 4, text 4 5", "> -2L p")
	holdEnds(t, "> -2B", ">   # b", "mark 0 1, open head 4, mark 4 5, text 6 7, close 7", "> -2L")
	// An empty item, which goes on behind a blank line, too.
	holdRows(t,
		row{"-", "open tight 0, open item 0, mark 0 1", "-2"},
		row{"", "", "-2B"},
		row{"  a", "open para 2, text 2 3", "-2L p"},
	)
}

// P19.7: what opens: code, quotes, and what comes behind their marks.
func TestCodeAndQuotes(t *testing.T) {
	for _, x := range []row{
		{"     b ", "open code 4, raw 4 7", "c"},
		{"\tb", "open code 1, raw 1 2", "c"},
		{"  \tb", "open code 3, raw 3 4", "c"},
		{"\t\tb", "open code 1, raw 1 3", "c"},
		{"   b", "open para 3, text 3 4", "p"},
		{">b", "open quote 0, mark 0 1, open para 1, text 1 2", "> p"},
		{"> b", "open quote 0, mark 0 1, open para 2, text 2 3", "> p"},
		{"   >   b", "open quote 3, mark 3 4, open para 7, text 7 8", "> p"},
		{">", "open quote 0, mark 0 1", ">"},
		{">  ", "open quote 0, mark 0 1", ">"},
		{">>b", "open quote 0, mark 0 1, open quote 1, mark 1 2, open para 2, text 2 3", "> > p"},
		{">     b", "open quote 0, mark 0 1, open code 6, raw 6 7", "> c"},
		{">    b", "open quote 0, mark 0 1, open para 5, text 5 6", "> p"},
		{">\tb", "open quote 0, mark 0 1, open para 2, text 2 3", "> p"},
		{">\t b", "open quote 0, mark 0 1, open para 3, text 3 4", "> p"},
		{">\t  b", "open quote 0, mark 0 1, open code 4, raw 4 5", "> c"},
		{">\t\tb", "open quote 0, mark 0 1, open code 2, raw 2 4", "> c"},
		{"  >\tb", "open quote 2, mark 2 3, open para 4, text 4 5", "> p"},
		{"  >\t    b", "open quote 2, mark 2 3, open code 8, raw 8 9", "> c"},
		{"> - b", "open quote 0, mark 0 1, open tight 2, open item 2, mark 2 3, open para 4, text 4 5", "> -2 p"},
	} {
		holdEnds(t, "", x.line, x.told, x.behind)
	}
	// A tab's columns go to the quote's mark, and to the code.
	holdEnds(t, "> c", ">\t b", "close 0, mark 0 1, open para 3, text 3 4", "> p")
	holdEnds(t, "> c", ">\t  b", "mark 0 1, raw 4 5", "> c")
	holdEnds(t, "> c", ">\t   b", "mark 0 1, raw 4 6", "> c")
}

// P19.7: what opens: headings.
func TestHeadings(t *testing.T) {
	for _, x := range []row{
		{"#", "open head 0, mark 0 1, close 1", ""},
		{"###### ", "open head 0, mark 0 6, close 6", ""},
		{"  ##  a b  ", "open head 2, mark 2 4, text 6 9, close 9", ""},
		{"# a ##", "open head 0, mark 0 1, text 2 3, mark 4 6, close 6", ""},
		{"# a  \t #  ", "open head 0, mark 0 1, text 2 3, mark 7 8, close 8", ""},
		{"# #", "open head 0, mark 0 1, mark 2 3, close 3", ""},
		{"## ####", "open head 0, mark 0 2, mark 3 7, close 7", ""},
		{"# a#", "open head 0, mark 0 1, text 2 4, close 4", ""},
		{"# ## b", "open head 0, mark 0 1, text 2 6, close 6", ""},
		{"#######", "open para 0, text 0 7", "p"},
		{"    # a", "open code 4, raw 4 7", "c"},
		{"> # a", "open quote 0, mark 0 1, open head 2, mark 2 3, text 4 5, close 5", ">"},
		{"- # a", "open tight 0, open item 0, mark 0 1, open head 2, mark 2 3, text 4 5, close 5", "-2"},
	} {
		holdEnds(t, "", x.line, x.told, x.behind)
	}
}

// P19.7: what opens: fences, breaks, definitions, paragraphs.
func TestOtherBlocks(t *testing.T) {
	for _, x := range []row{
		{"~~~", "open fence 0, mark 0 3", "~3"},
		{"   ~~~~~ a b\t", "open fence 3, mark 3 12", "~5:3"},
		{"```a", "open fence 0, mark 0 4", "`3"},
		{"```a`", "open para 0, text 0 5", "p"},
		{"    ~~~", "open code 4, raw 4 7", "c"},
		{">  ```", "open quote 0, mark 0 1, open fence 3, mark 3 6", "> `3:1"},
		{">\t~~~", "open quote 0, mark 0 1, open fence 2, mark 2 5", "> ~3:2"},
		{"***", "rule 0 3", ""},
		{"  - - - \t", "rule 2 7", ""},
		{"___", "rule 0 3", ""},
		{"--", "open para 0, text 0 2", "p"},
		{"===", "open para 0, text 0 3", "p"},
		{"- ***", "open tight 0, open item 0, mark 0 1, rule 2 5", "-2"},
		{"- ---", "rule 0 5", ""},
		{"[a]: b", "def 0 6", ""},
		{"   [a]: <b c> (d)  ", "def 3 17", ""},
		{"[a]: b c", "open para 0, text 0 8", "p"},
		{"    [a]: b", "open code 4, raw 4 10", "c"},
		{"> [a]: b", "open quote 0, mark 0 1, def 2 8", ">"},
		{"[]: b", "open para 0, text 0 5", "p"},
		{"a  ", "open para 0, text 0 3", "p"},
		{"\x00", "open para 0, text 0 1", "p"},
		{"\f", "open para 0, text 0 1", "p"},
		{"a\rb", "open para 0, text 0 3", "p"},
		{"\\> a", "open para 0, text 0 4", "p"},
		{"", "", ""},
		{" \t ", "", ""},
	} {
		holdEnds(t, "", x.line, x.told, x.behind)
	}
}

// P19.7: what opens: items, and how wide they are.
func TestItems(t *testing.T) {
	for _, x := range []row{
		{"- b", "open tight 0, open item 0, mark 0 1, open para 2, text 2 3", "-2 p"},
		{"-    b", "open tight 0, open item 0, mark 0 1, open para 5, text 5 6", "-5 p"},
		{"-     b", "open tight 0, open item 0, mark 0 1, open code 6, raw 6 7", "-2 c"},
		{"-      b", "open tight 0, open item 0, mark 0 1, open code 6, raw 6 8", "-2 c"},
		{"   *  b", "open tight 3, open item 3, mark 3 4, open para 6, text 6 7", "*6 p"},
		{"+", "open tight 0, open item 0, mark 0 1", "+2"},
		{"+    ", "open tight 0, open item 0, mark 0 1", "+2"},
		{"  +         ", "open tight 2, open item 2, mark 2 3", "+4"},
		{"-\tb", "open tight 0, open item 0, mark 0 1, open para 2, text 2 3", "-4 p"},
		{" -\tb", "open tight 1, open item 1, mark 1 2, open para 3, text 3 4", "-4 p"},
		{"   -\tb", "open tight 3, open item 3, mark 3 4, open para 5, text 5 6", "-8 p"},
		{"-\t\tb", "open tight 0, open item 0, mark 0 1, open code 2, raw 2 4", "-2 c"},
		{"-  \tb", "open tight 0, open item 0, mark 0 1, open para 4, text 4 5", "-4 p"},
		{"   -\t b", "open tight 3, open item 3, mark 3 4, open code 6, raw 6 7", "-5 c"},
		{"10) b", "open tight 0, open item 0, mark 0 3, open para 4, text 4 5", ")4 p"},
		{"   123456789.    b", "open tight 3, open item 3, mark 3 13, open para 17, text 17 18", ".17 p"},
		{"1234567890. b", "open para 0, text 0 13", "p"},
		{"-b", "open para 0, text 0 2", "p"},
		{"- - b", "open tight 0, open item 0, mark 0 1, open tight 2, open item 2, mark 2 3, open para 4, text 4 5", "-2 -2 p"},
		{"- > 1. b", "open tight 0, open item 0, mark 0 1, open quote 2, mark 2 3, open tight 4, open item 4, mark 4 6, open para 7, text 7 8", "-2 > .3 p"},
		{"-\t- b", "open tight 0, open item 0, mark 0 1, open tight 2, open item 2, mark 2 3, open para 4, text 4 5", "-4 -2 p"},
		{"> -\tb", "open quote 0, mark 0 1, open tight 2, open item 2, mark 2 3, open para 4, text 4 5", "> -2 p"},
		{"> -\t b", "open quote 0, mark 0 1, open tight 2, open item 2, mark 2 3, open para 5, text 5 6", "> -3 p"},
		{">\t- b", "open quote 0, mark 0 1, open tight 2, open item 2, mark 2 3, open para 4, text 4 5", "> -4 p"},
	} {
		holdEnds(t, "", x.line, x.told, x.behind)
	}
}

// P19.7: as many frames open as there is room for.
func TestRoom(t *testing.T) {
	line, told, behind := "", "", ""
	for i := range api.MaxStack {
		at := strconv.Itoa(2 * i)
		next := strconv.Itoa(2*i + 1)
		if i%3 == 0 {
			line += "- "
			told += "open tight " + at + ", open item " + at + ", mark " + at + " " + next + ", "
			behind += "-2 "
		} else {
			line += "> "
			told += "open quote " + at + ", mark " + at + " " + next + ", "
			behind += "> "
		}
	}
	holdEnds(t, "", line+"- b", told+"open para 32, text 32 35", behind+"p")
	holdEnds(t, "", line+"> b", told+"open para 32, text 32 35", behind+"p")
	holdEnds(t, "", line+"# b", told+"open head 32, mark 32 33, text 34 35, close 35", behind)
	holdEnds(t, "", line+"    b", told+"open code 36, raw 36 37", behind+"c")
	holdEnds(t, "", line, strings.TrimSuffix(told, ", "), behind)
}

// P19.8: what is open at a text's end closes.
func TestEnd(t *testing.T) {
	for s, want := range map[string]string{
		"":              "",
		"p":             "close 0",
		"c":             "close 0",
		"~3":            "close 0",
		"`9:2":          "close 0",
		">":             "close 0",
		"> > p":         "close 0, close 0, close 0",
		"-2":            "close 0, close 0",
		"-2B":           "close 0, close 0",
		"-2L":           "close 0, close loose 0",
		".3LB c":        "close 0, close 0, close loose 0",
		"-2L > -2 ~3":   "close 0, close 0, close 0, close 0, close 0, close loose 0",
		"> +2 *2L":      "close 0, close loose 0, close 0, close 0, close 0",
		full + " p":     "close 0" + strings.Repeat(", close 0", api.MaxStack),
		"-2 -2 -2B -2B": strings.TrimPrefix(strings.Repeat(", close 0", 8), ", "),
	} {
		holdEnd(t, s, want)
	}
}

// R3: what is told is new memory: what is written there is in no other answer.
func TestNewMemory(t *testing.T) {
	for _, signs := range someStates {
		for _, line := range []string{"> - a", "", "# a #", "- b"} {
			ev, _ := mdblock.Scan(state(signs), line)
			want := told(ev)
			for i := range ev[:cap(ev)] {
				ev[:cap(ev)][i] = api.Event{Op: 9, At: 99}
			}
			if now, _ := mdblock.Scan(state(signs), line); told(now) != want {
				t.Errorf("Scan(%s, %q) tells %s, and then %s", signs, line, want, told(now))
			}
		}
	}
}
