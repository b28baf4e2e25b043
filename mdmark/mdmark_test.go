package mdmark_test

import (
	"math"
	"strconv"
	"strings"
	"testing"

	"indenture/mdmark"
)

// reading is one of the five calls.
type reading struct {
	name string
	of   func(line string, at int) (mdmark.Mark, bool)
}

var (
	rule  = reading{"Rule", mdmark.Rule}
	head  = reading{"Head", mdmark.Head}
	under = reading{"Under", mdmark.Under}
	fence = reading{"Fence", mdmark.Fence}
	item  = reading{"Item", mdmark.Item}
)

// all are the five of them.
var all = []reading{rule, head, under, fence, item}

// none is what is told where nothing stands.
var none mdmark.Mark

// aRule is what is told of a break.
func aRule(c byte, count, last int) mdmark.Mark {
	return mdmark.Mark{Char: c, Count: count, Last: last}
}

// aHead is what is told of a heading.
func aHead(count, from, end, last int) mdmark.Mark {
	return mdmark.Mark{Count: count, To: count, From: from, End: end, Last: last}
}

// anUnder is what is told of an underline.
func anUnder(c byte, count int) mdmark.Mark {
	return mdmark.Mark{Char: c, Count: count, Last: count}
}

// aFence is what is told of a fence.
func aFence(c byte, count, last int) mdmark.Mark {
	return mdmark.Mark{Char: c, Count: count, To: count, Last: last}
}

// anItem is what is told of an item's mark.
func anItem(c byte, count, to, last int) mdmark.Mark {
	return mdmark.Mark{Char: c, Count: count, To: to, Last: last}
}

// hold holds what is told of a line at a place; none is nothing.
func (r reading) hold(t *testing.T, line string, at int, want mdmark.Mark) {
	t.Helper()
	if m, is := r.of(line, at); m != want || is != (want != none) {
		t.Errorf("%s(%.99q, %d) = %v, %v, not %v", r.name, line, at, m, is, want)
	}
}

// moved is a mark k places further on; fields that tell no place of r's stay.
func (r reading) moved(m mdmark.Mark, k int) mdmark.Mark {
	if m == none {
		return none
	}
	m.Last += k
	if r.name == "Head" || r.name == "Fence" || r.name == "Item" {
		m.To += k
	}
	if r.name == "Head" {
		m.From, m.End = m.From+k, m.End+k
	}
	return m
}

// holdAll holds what is told of a text, whatever stands ahead of it, and with whatever end.
func (r reading) holdAll(t *testing.T, text string, want mdmark.Mark) {
	t.Helper()
	for _, end := range []string{"", "\n", "\r\n", "\n`#-", "\r\n- a\n"} {
		for _, ahead := range []string{"", " ", "> ", "#", "-", "`", "\\", "\xff\x00", "1. - ", "\r"} {
			r.hold(t, ahead+text+end, len(ahead), r.moved(want, len(ahead)))
		}
	}
}

// P18.1 to P18.5: the chapter's examples.
func TestExamples(t *testing.T) {
	rule.holdAll(t, "* * *", aRule('*', 3, 5))
	rule.holdAll(t, "--", none)
	rule.holdAll(t, "_ _-_", none)
	rule.holdAll(t, "***a", none)
	head.holdAll(t, "## a b ##", aHead(2, 3, 6, 9))
	head.holdAll(t, "#", aHead(1, 1, 1, 1))
	head.holdAll(t, "#a", none)
	head.holdAll(t, "# a#", aHead(1, 2, 4, 4))
	head.holdAll(t, "# #", aHead(1, 1, 1, 3))
	head.holdAll(t, "#######", none)
	under.holdAll(t, "==", anUnder('=', 2))
	under.holdAll(t, "- ", anUnder('-', 1))
	under.holdAll(t, "=-", none)
	under.holdAll(t, "= =", none)
	fence.holdAll(t, "~~~ a", aFence('~', 3, 5))
	fence.holdAll(t, "```a~b", aFence('`', 3, 6))
	fence.holdAll(t, "```a~b`", none)
	fence.holdAll(t, "~~", none)
	item.holdAll(t, "- a", anItem('-', 0, 1, 3))
	item.holdAll(t, "-", anItem('-', 0, 1, 1))
	item.holdAll(t, "-a", none)
	item.holdAll(t, "12) b", anItem(')', 12, 3, 5))
	item.holdAll(t, "1234567890. a", none)
	item.holdAll(t, "+", anItem('+', 0, 1, 1))
}

// P18.1: breaks.
func TestRule(t *testing.T) {
	for _, c := range []string{"*", "-", "_"} {
		for text, want := range map[string][2]int{
			"x": {}, "xx": {}, "x x": {}, "x \tx  ": {}, "xxx": {3, 3}, "xxxx": {4, 4}, "xxx ": {3, 3}, "xxx \t ": {3, 3}, "x x x": {3, 5}, "x\tx\tx": {3, 5}, "xx x": {3, 4}, "x  \t xx\t": {3, 7}, "xx  xx  xx": {6, 10},
			"xxxa": {}, "xxx a": {}, "axxx": {}, " xxx": {}, "\txxx": {}, "xx\vx": {}, "xxx\x00": {}, "xxx\f": {}, "xx\u00a0x": {}, "xxx#": {}, "xxx=": {}, "xx\\x": {}, "": {}, " ": {},
		} {
			m := none
			if want[0] > 0 {
				m = aRule(c[0], want[0], want[1])
			}
			rule.holdAll(t, strings.ReplaceAll(text, "x", c), m)
		}
	}
	for _, text := range []string{"*-*", "**-", "-_-", "- - *", "___-", "===", "+++", "###", "~~~", "```", "...", "\\***", "> ***", "* * a", "0 0 0", "aaa"} {
		rule.holdAll(t, text, none)
	}
	// A byte 13 that is not right ahead of the LF is no blank.
	rule.hold(t, "***\r", 0, none)
	rule.hold(t, "***\r\r\n", 0, none)
	rule.hold(t, "**\r*\n", 0, none)
	rule.hold(t, "***\n*", 0, aRule('*', 3, 3))
	rule.hold(t, "**\n*", 0, none)
	rule.hold(t, "* ***", 2, aRule('*', 3, 5))
	rule.hold(t, "* ***", 3, none)
	rule.hold(t, "****", 1, aRule('*', 3, 4))
}

// P18.2: headings, and their content.
func TestHead(t *testing.T) {
	for text, want := range map[string]mdmark.Mark{
		// How many # there may be, and what must stand behind them.
		"#": aHead(1, 1, 1, 1), "##": aHead(2, 2, 2, 2), "######": aHead(6, 6, 6, 6), "#######": none, "####### a": none, "###### a": aHead(6, 7, 8, 8), "########": none,
		"# a": aHead(1, 2, 3, 3), "#\ta": aHead(1, 2, 3, 3), "#a": none, "#\\ a": none, "#\x00": none, "#\v": none, "#\u00a0a": none, "##a": none, "#!": none, "": none, " # a": none, "a # b": none, "\\# a": none,
		// Blanks around the content.
		"# ": aHead(1, 1, 1, 1), "# \t ": aHead(1, 1, 1, 1), "#  a": aHead(1, 3, 4, 4), "# \t a b \t": aHead(1, 4, 7, 7), "###   a": aHead(3, 6, 7, 7), "# a\x00": aHead(1, 2, 4, 4), "# a\f ": aHead(1, 2, 4, 4), "# a\u00a0": aHead(1, 2, 5, 5),
		// The row that closes.
		"# a #": aHead(1, 2, 3, 5), "# a ##": aHead(1, 2, 3, 6), "# a #######": aHead(1, 2, 3, 11), "# a\t#": aHead(1, 2, 3, 5), "# a \t # \t": aHead(1, 2, 3, 7), "###### a b #": aHead(6, 7, 10, 12), "#  a  #  ": aHead(1, 3, 4, 7),
		"# a#": aHead(1, 2, 4, 4), "# a##": aHead(1, 2, 5, 5), "# a# #": aHead(1, 2, 4, 6), "# a # #": aHead(1, 2, 5, 7), "# a # b": aHead(1, 2, 7, 7), "# # a": aHead(1, 2, 5, 5), "# #a #": aHead(1, 2, 4, 6), "# a \\#": aHead(1, 2, 6, 6), "# a #\\": aHead(1, 2, 6, 6), "# a \\##": aHead(1, 2, 7, 7), "# a \x00#": aHead(1, 2, 6, 6), "# a #b": aHead(1, 2, 6, 6), "# a #b #": aHead(1, 2, 6, 8),
		// Nothing but rows.
		"# #": aHead(1, 1, 1, 3), "# ##": aHead(1, 1, 1, 4), "#  #": aHead(1, 1, 1, 4), "#\t#\t": aHead(1, 1, 1, 3), "## ###  ": aHead(2, 2, 2, 6), "###### #": aHead(6, 6, 6, 8), "# # #": aHead(1, 2, 3, 5), "#   ##   # ": aHead(1, 4, 6, 10), "## # # #": aHead(2, 3, 6, 8),
		// Content of any bytes.
		"# *a* `#` [b]": aHead(1, 2, 13, 13), "# \xff\xfe #": aHead(1, 2, 4, 6), "# ---": aHead(1, 2, 5, 5), "# 1.": aHead(1, 2, 4, 4),
	} {
		head.holdAll(t, text, want)
	}
	// A byte 13 that is not right ahead of the LF is no blank.
	head.hold(t, "#\r", 0, none)
	head.hold(t, "#\r\r\n", 0, none)
	head.hold(t, "# \r", 0, aHead(1, 2, 3, 3))
	head.hold(t, "# a #\r", 0, aHead(1, 2, 6, 6))
	head.hold(t, "# a\r#\n", 0, aHead(1, 2, 5, 5))
	head.hold(t, "## a", 1, mdmark.Mark{Count: 1, To: 2, From: 3, End: 4, Last: 4})
	head.hold(t, "####### #", 1, mdmark.Mark{Count: 6, To: 7, From: 7, End: 7, Last: 9})
	head.hold(t, "# # b", 2, mdmark.Mark{Count: 1, To: 3, From: 4, End: 5, Last: 5})
}

// P18.3: underlines.
func TestUnder(t *testing.T) {
	for _, c := range []string{"=", "-"} {
		for text, want := range map[string]int{
			"x": 1, "xx": 2, "xxxxx": 5, "x ": 1, "xx\t": 2, "xxx \t ": 3,
			"": 0, " x": 0, "\tx": 0, "x x": 0, "xx  x": 0, "xa": 0, "x a": 0, "ax": 0, "x\x00": 0, "x\v": 0, "x\f": 0, "x\u00a0": 0, "x#": 0, "\\x": 0, "x\\": 0,
		} {
			m := none
			if want > 0 {
				m = anUnder(c[0], want)
			}
			under.holdAll(t, strings.ReplaceAll(text, "x", c), m)
		}
	}
	for _, text := range []string{"=-", "-=", "==-", "--=", "_", "___", "***", "~~~", "#", "+", " ", "a", "0", "<", "."} {
		under.holdAll(t, text, none)
	}
	under.hold(t, "==\r", 0, none)
	under.hold(t, "==\r\r\n", 0, none)
	under.hold(t, "=\n=", 0, anUnder('=', 1))
	under.hold(t, "===", 1, mdmark.Mark{Char: '=', Count: 2, Last: 3})
	under.hold(t, "a ==", 2, mdmark.Mark{Char: '=', Count: 2, Last: 4})
}

// P18.4: fences.
func TestFence(t *testing.T) {
	for text, want := range map[string][2]int{
		"": {}, "x": {}, "xx": {}, "xxx": {3, 3}, "xxxx": {4, 4}, "xxxxxxx": {7, 7}, " xxx": {}, "\txxx": {}, "axxx": {}, "\\xxx": {}, "x x x": {}, "xx x": {}, "xxa": {},
		"xxx ": {3, 3}, "xxx \t ": {3, 3}, "xxxa": {3, 4}, "xxx a": {3, 5}, "xxxx a b  ": {4, 8}, "xxx\x00": {3, 4}, "xxx\u00e9 ": {3, 5}, "xxx#": {3, 4}, "xxx \\": {3, 5},
	} {
		for _, c := range []string{"~", "`"} {
			m := none
			if want[0] > 0 {
				m = aFence(c[0], want[0], want[1])
			}
			fence.holdAll(t, strings.ReplaceAll(text, "x", c), m)
		}
	}
	// Accents that stand behind accents, and other such bytes.
	for text, want := range map[string]mdmark.Mark{
		"```a`": none, "``` `": none, "``` ```": none, "```a``b": none, "````a`": none, "``` \\`": none, "```~`": none,
		"~~~a~": aFence('~', 3, 5), "~~~ ~": aFence('~', 3, 5), "~~~ ~~~": aFence('~', 3, 7), "~~~`": aFence('~', 3, 4), "~~~ ```": aFence('~', 3, 7), "```~": aFence('`', 3, 4), "``` ~~~ ": aFence('`', 3, 7),
		"~~`": none, "``~": none, "~`~": none, "'''": none, "---": none, "===": none, "###": none, "\"\"\"": none, "aaa": none, "...": none,
	} {
		fence.holdAll(t, text, want)
	}
	fence.hold(t, "```\r", 0, aFence('`', 3, 4))
	fence.hold(t, "```\r\n`", 0, aFence('`', 3, 3))
	fence.hold(t, "```\n`", 0, aFence('`', 3, 3))
	fence.hold(t, "``\n`", 0, none)
	fence.hold(t, "`a```", 2, mdmark.Mark{Char: '`', Count: 3, To: 5, Last: 5})
	fence.hold(t, "````", 1, mdmark.Mark{Char: '`', Count: 3, To: 4, Last: 4})
	fence.hold(t, "````", 2, none)
}

// P18.5: items' marks.
func TestItem(t *testing.T) {
	for _, c := range []string{"-", "+", "*"} {
		for text, want := range map[string]int{
			"x": 1, "x ": 1, "x\t": 1, "x a": 3, "x\ta": 3, "x  a b ": 6, "x x": 3, "x x x": 5, "x   ": 1, "x \x00": 3, "x #": 3,
			"": 0, "xa": 0, "xx": 0, "xx a": 0, "xxx": 0, " x": 0, "\tx": 0, "x\x00": 0, "x\v": 0, "x\u00a0": 0, "x.": 0, "x1": 0, "ax": 0, "\\x a": 0, "x\\": 0, "1x": 0, "1x a": 0,
		} {
			m := none
			if want > 0 {
				m = anItem(c[0], 0, 1, want)
			}
			item.holdAll(t, strings.ReplaceAll(text, "x", c), m)
		}
	}
	for _, c := range []string{".", ")"} {
		for number, count := range map[string]int{"0": 0, "1": 1, "7": 7, "10": 10, "42": 42, "007": 7, "000": 0, "100": 100, "123456789": 123456789, "999999999": 999999999, "000000000": 0, "000000001": 1, "012345678": 12345678} {
			n := len(number) + 1
			for behind, last := range map[string]int{"": n, " ": n, "\t": n, " a": n + 2, "\t a b  ": n + 5, " 2" + c: n + 3} {
				item.holdAll(t, number+c+behind, anItem(c[0], count, n, last))
			}
			for _, behind := range []string{"a", "1", ".", ")", "\x00", "\v", "\\", "\u00a0", "-"} {
				item.holdAll(t, number+c+behind, none)
			}
			item.holdAll(t, " "+number+c, none)
			item.holdAll(t, "-"+number+c, none)
			item.holdAll(t, number+" "+c, none)
		}
		for _, number := range []string{"", "1234567890", "0000000000", "99999999999999999999999", "a", "1a", "0x1", "1_0", "\u0663", "-1", "+1", "1,", "("} {
			item.holdAll(t, number+c, none)
			item.holdAll(t, number+c+" a", none)
		}
	}
	for _, text := range []string{"1", "12", "1 ", "1 a", "1:", "1]", "1, a", "123456789", "1234567890", "_ a", "# a", "= a", "> a", "~ a", "a. b", "(1) a"} {
		item.holdAll(t, text, none)
	}
	item.hold(t, "-\r", 0, none)
	item.hold(t, "1.\r\r\n", 0, none)
	item.hold(t, "1\n.", 0, none)
	item.hold(t, "-\na", 0, anItem('-', 0, 1, 1))
	item.hold(t, "12. a", 1, mdmark.Mark{Char: '.', Count: 2, To: 3, Last: 5})
	item.hold(t, "1234567890. a", 1, mdmark.Mark{Char: '.', Count: 234567890, To: 11, Last: 13})
	item.hold(t, "- - a", 2, mdmark.Mark{Char: '-', To: 3, Last: 5})
	for n := range 2000 {
		number := strconv.Itoa(n * 499979)
		item.hold(t, number+") x", 0, anItem(')', n*499979, len(number)+1, len(number)+3))
	}
}

// P18.1 to P18.5: of a place below 0, or not ahead of the line's end, nothing is told.
func TestPlacesThatAreNone(t *testing.T) {
	for _, text := range []string{"", "-", "- a", "***", "---", "===", "# a #", "~~~", "```", "1. a", "*", "  "} {
		for _, end := range []string{"", "\n", "\r\n", "\n---", "\r\n# a\n", "\n\n"} {
			for _, r := range all {
				for _, at := range []int{math.MinInt, -1 << 40, -3, -2, -1, len(text), len(text) + 1, len(text) + 2, len(text + end), 1 << 40, math.MaxInt} {
					r.hold(t, text+end, at, none)
				}
				for at := len(text); at < len(text+end)+2; at++ {
					r.hold(t, text+end, at, none)
				}
			}
		}
	}
}
