package yamlblock_test

import (
	"slices"
	"strconv"
	"strings"
	"testing"

	"indenture/api"
	"indenture/build"
	"indenture/tree"
	"indenture/yamlblock"
)

// treeOf is the tree of a text, whose lines are scanned one behind the other, and the state behind it.
func treeOf(t *testing.T, text string) ([]api.Node, api.State) {
	t.Helper()
	b := build.New(api.KindText)
	var s api.State
	at := 0
	for line := range strings.Lines(text) {
		ev, behind := yamlblock.Scan(s, line)
		if err := b.Put(ev, at); err != api.OK {
			t.Fatalf("the events of %q: %v", line, err)
		}
		at, s = at+len(line), behind
	}
	l, err := b.Done(len(text))
	if err != api.OK || tree.Check(l, len(text)) != api.OK {
		t.Fatalf("what %q makes is no tree", text)
	}
	return l, s
}

// shape tells a tree but for its root: of each node its depth, its kind, From and To.
func shape(l []api.Node) string {
	var rows []string
	for _, x := range l[1:] {
		rows = append(rows, strings.Join([]string{strconv.Itoa(x.Depth), words[x.Kind], strconv.Itoa(x.From), strconv.Itoa(x.To)}, " "))
	}
	return strings.Join(rows, ", ")
}

// P14.1 to P14.4: the trees of whole texts.
func TestTrees(t *testing.T) {
	for _, x := range []struct{ text, want string }{
		{"", ""},
		{"a: 1\n", "1 map 0 5, 2 pair 0 5, 3 key 0 1, 3 plain 3 4"},
		{"a:\n- b\n- c: 1\n", "1 map 0 14, 2 pair 0 14, 3 key 0 1, 3 seq 3 14, 4 item 3 7, 5 dash 3 4, 5 plain 5 6, 4 item 7 14, 5 dash 7 8, 5 map 9 14, 6 pair 9 14, 7 key 9 10, 7 plain 12 13"},
		{"k: |\n  - x\ny: 1\n", "1 map 0 16, 2 pair 0 11, 3 key 0 1, 3 head 3 4, 3 block 4 11, 4 line 7 10, 2 pair 11 16, 3 key 11 12, 3 plain 14 15"},
		{"a:\n  b: 1\n\n# c\nd:", "1 map 0 17, 2 pair 0 15, 3 key 0 1, 3 map 5 15, 4 pair 5 15, 5 key 5 6, 5 plain 8 9, 5 comment 11 14, 2 pair 15 17, 3 key 15 16"},
		{"a: 1\n---\n- b\n", "1 map 0 5, 2 pair 0 5, 3 key 0 1, 3 plain 3 4, 1 mark 5 8, 1 seq 9 13, 2 item 9 13, 3 dash 9 10, 3 plain 11 12"},
		{">\nx\n  y\nz\n", "1 head 0 1, 1 block 1 8, 2 line 2 3, 2 line 6 7, 1 plain 8 9"},
		{"  a: b\r\nc: d\r\n", "1 map 2 8, 2 pair 2 8, 3 key 2 3, 3 plain 5 6, 1 error 8 12"},
	} {
		if l, _ := treeOf(t, x.text); shape(l) != x.want {
			t.Errorf("the tree of %q is\n%s, not\n%s", x.text, shape(l), x.want)
		}
	}
}

// writer writes data, and the tree that they have to have.
type writer struct {
	seed  uint64
	text  strings.Builder
	nodes []api.Node
	open  []int // the nodes that are open, by their places in nodes
	wide  int   // by how many columns it is indented more at most
	deep  int   // how many mappings and sequences lie one in the other at most
	line  int   // where the line begins
	quiet bool  // whether comments and empty lines would be told as what is within a block scalar, or end it
}

// put adds a node.
func (w *writer) put(kind uint8, from, to int) {
	w.nodes = append(w.nodes, api.Node{Kind: kind, From: from, To: to, Depth: len(w.open) + 1})
}

// leaf writes a leaf.
func (w *writer) leaf(kind uint8, bytes string) {
	from := w.text.Len()
	w.text.WriteString(bytes)
	w.put(kind, from, w.text.Len())
}

// begin begins a node here.
func (w *writer) begin(kind uint8) {
	w.put(kind, w.text.Len(), 0)
	w.open = append(w.open, len(w.nodes)-1)
}

// shut closes nodes at a place, until n are open.
func (w *writer) shut(n, at int) {
	for len(w.open) > n {
		w.nodes[w.open[len(w.open)-1]].To = at
		w.open = w.open[:len(w.open)-1]
	}
}

// end writes a line's end.
func (w *writer) end() {
	w.text.WriteString([]string{"\n", "\r\n"}[turn(&w.seed, 2)])
	w.line = w.text.Len()
}

// blank writes some blanks, one at least.
func (w *writer) blank() {
	w.text.WriteString([]string{" ", "  ", "\t", " \t "}[turn(&w.seed, 4)])
}

// trail writes what may stand behind all else in a line, and its end.
func (w *writer) trail() {
	switch turn(&w.seed, 5) {
	case 0:
		w.blank()
	case 1:
		w.blank()
		w.leaf(api.YamlComment, "# a: - |")
	}
	w.end()
}

// idle writes some lines that tell nothing of what is open, or none.
func (w *writer) idle() {
	for !w.quiet && turn(&w.seed, 4) == 0 {
		w.text.WriteString(blanks(turn(&w.seed, 20)))
		if turn(&w.seed, 2) == 0 {
			w.leaf(api.YamlComment, "# x: ")
		} else if turn(&w.seed, 2) == 0 {
			w.text.WriteString("\t")
		}
		w.end()
	}
	w.quiet = false
}

// scalars are what may stand as one in a line; keys, what may stand ahead of a colon.
var (
	scalars = []string{"1", "a b", "a:b", "-x", "--- a", "a#b", "'it''s: #'", `"a\": b"`, "[1, 2]", "{a", "&x", "|x", "%", "-1", "\xff\x00", "\u00e9", "x - y", "''"}
	keys    = []string{"k", "a b", "'k: x'", `"\"#"`, "-k", "a:b", "[", "---k", "\xc3\xa9", "?", "|2"}
)

// scalar writes a scalar that is no key.
func (w *writer) scalar() {
	x := scalars[turn(&w.seed, len(scalars))]
	switch {
	case x == "--- a" && w.text.Len() == w.line:
		// At a line's beginning a mark would stand there.
		w.leaf(api.YamlPlain, "---a")
	case x[0] == '\'' || x[0] == '"':
		w.leaf(api.YamlQuoted, x)
	default:
		w.leaf(api.YamlPlain, x)
	}
}

// onward writes lines with which a plain scalar goes on, or none: deeper than col.
func (w *writer) onward(col int) {
	for turn(&w.seed, 5) == 0 {
		w.idle()
		w.text.WriteString(blanks(col + 1 + turn(&w.seed, w.wide)))
		w.leaf(api.YamlPlain, []string{"and more", "a:b", "-x", "x"}[turn(&w.seed, 4)])
		w.trail()
	}
}

// inner are lines of block scalars, without a blank ahead.
var inner = []string{"x", "- a", "a: b", "# c", "|", "'", "---", "...", ": ", "\xff\x00", "\\", "a  \t", "x\r\ry"}

// block writes a block scalar whose lines stand deeper than col, which is -1 in a document.
func (w *writer) block(col int) {
	count := col + 1 + turn(&w.seed, min(w.wide, 9))
	sign := []string{"|", ">"}[turn(&w.seed, 2)]
	digit := turn(&w.seed, 2) == 0
	if n := count - max(col, 0); digit && n > 0 {
		sign += strconv.Itoa(n)
	} else {
		digit = false
		count = max(count, 1)
	}
	w.leaf(api.YamlHead, sign+[]string{"", "-", "+"}[turn(&w.seed, 3)])
	at := -1
	if turn(&w.seed, 3) == 0 {
		w.blank()
		w.leaf(api.YamlComment, "# |")
		at = w.text.Len()
	} else if at = w.text.Len(); turn(&w.seed, 3) == 0 {
		w.text.WriteString("  ")
		at += 2
	}
	w.begin(api.YamlBlock)
	w.end()
	n := turn(&w.seed, 5)
	if col < 0 && !digit {
		// Whatever stood behind such a scalar without lines would be its first one.
		n++
	}
	for i := range n {
		if turn(&w.seed, 4) == 0 {
			w.text.WriteString(blanks(turn(&w.seed, 20)))
			w.end()
		}
		w.text.WriteString(blanks(count))
		ahead := ""
		if i > 0 || digit {
			ahead = []string{"", " ", "   ", "\t"}[turn(&w.seed, 4)]
		}
		w.leaf(api.YamlLine, ahead+inner[turn(&w.seed, len(inner))])
		w.end()
	}
	w.quiet = true
}

// value writes what belongs to a key, or a dash, of a level at col, of which n lie one in the other, behind which the line still goes on; beside tells whether a sequence may stand at col, too, and entries whether they may stand in the same line.
func (w *writer) value(n, col int, beside, entries bool) {
	deeper := col + 1 + turn(&w.seed, w.wide)
	kind := turn(&w.seed, 7)
	if n >= w.deep {
		kind %= 4
	}
	if kind >= 4 && entries && turn(&w.seed, 2) == 0 {
		spaces := 1 + turn(&w.seed, 3)
		w.text.WriteString(blanks(spaces))
		w.entries(n, col+1+spaces, kind == 4, true)
		return
	}
	switch kind {
	case 0:
		w.trail()
	case 1, 2:
		w.blank()
		w.scalar()
		w.trail()
		w.onward(col)
	case 3:
		w.blank()
		w.block(col)
	case 4:
		w.trail()
		w.entries(n, deeper, true, false)
	default:
		if beside && turn(&w.seed, 2) == 0 {
			deeper = col
		}
		w.trail()
		w.entries(n, deeper, false, false)
	}
}

// entries write a mapping, or a sequence, at col, within n others; its first entry stands behind what the line has, or in a line of its own.
func (w *writer) entries(n, col int, isMap, inLine bool) {
	kinds := [3]uint8{api.YamlSeq, api.YamlItem, api.YamlDash}
	if isMap {
		kinds = [3]uint8{api.YamlMap, api.YamlPair, api.YamlKey}
	}
	own := len(w.open) + 1
	for i := range 1 + turn(&w.seed, 4) {
		if i > 0 || !inLine {
			if i == 0 {
				w.idle()
			} else {
				// What lies within the entry ahead ends where the line begins, and the entry itself where the next one begins.
				w.idle()
				w.shut(own+1, w.line)
			}
			w.text.WriteString(blanks(col))
		}
		w.shut(own, w.text.Len())
		if i == 0 {
			w.begin(kinds[0])
		}
		w.begin(kinds[1])
		if !isMap {
			w.leaf(kinds[2], "-")
			w.value(n+1, col, false, true)
			continue
		}
		w.leaf(kinds[2], keys[turn(&w.seed, len(keys))])
		if turn(&w.seed, 4) == 0 {
			w.blank()
		}
		w.text.WriteString(":")
		w.value(n+1, col, true, false)
	}
}

// document writes one, and whatever is open closes behind it.
func (w *writer) document() {
	w.quiet = false
	w.idle()
	switch turn(&w.seed, 6) {
	case 0:
		w.text.WriteString(blanks(turn(&w.seed, 3)))
		w.scalar()
		w.trail()
		w.onward(-1)
	case 1:
		w.text.WriteString(blanks(turn(&w.seed, 3)))
		w.block(-1)
	default:
		w.entries(0, turn(&w.seed, 3), turn(&w.seed, 2) == 0, false)
	}
}

// P14.6: data that are laid by lines, as deep as there is room, however wide they are indented; one document, and some with marks between them.
func TestData(t *testing.T) {
	deepest := 0
	for round := range 6000 {
		w := writer{seed: uint64(round), wide: []int{1, 2, 4, 30}[round%4], deep: []int{2, 4, 16}[round%3]}
		for range turn(&w.seed, 3) {
			w.document()
			w.shut(0, w.text.Len())
			w.leaf(api.YamlMark, "...")
			w.trail()
		}
		w.document()
		text := w.text.String()
		w.shut(0, len(text))
		if len(text) > most {
			continue
		}
		l, behind := treeOf(t, text)
		if !slices.Equal(l[1:], w.nodes) {
			t.Fatalf("the tree of %q is\n%s, not\n%s", text, shape(l), shape(append(l[:1:1], w.nodes...)))
		}
		deepest = max(deepest, behind.Depth)
		for _, x := range l {
			deepest = max(deepest, x.Depth/2)
		}
	}
	if deepest < api.MaxStack {
		t.Errorf("at most %d deep", deepest)
	}
}

// P14.6: a mapping in a mapping, and a sequence there, whose indentations are nearly all of the text.
func TestWideData(t *testing.T) {
	k := most/4 - 10
	text := "a:\n" + blanks(k) + "b:\n" + blanks(k) + "- c\n" + blanks(k) + "- d: e\n" + blanks(k) + "f:"
	l, behind := treeOf(t, text)
	at := func(lines, more int) string { return strconv.Itoa(3 + lines*k + more) }
	want := "1 map 0 " + at(4, 16) + ", 2 pair 0 " + at(4, 16) + ", 3 key 0 1, 3 map " + at(1, 0) + " " + at(4, 16) + ", 4 pair " + at(1, 0) + " " + at(4, 14) + ", 5 key " + at(1, 0) + " " + at(1, 1) +
		", 5 seq " + at(2, 3) + " " + at(3, 14) + ", 6 item " + at(2, 3) + " " + at(3, 7) + ", 7 dash " + at(2, 3) + " " + at(2, 4) + ", 7 plain " + at(2, 5) + " " + at(2, 6) +
		", 6 item " + at(3, 7) + " " + at(3, 14) + ", 7 dash " + at(3, 7) + " " + at(3, 8) + ", 7 map " + at(3, 9) + " " + at(3, 14) + ", 8 pair " + at(3, 9) + " " + at(3, 14) + ", 9 key " + at(3, 9) + " " + at(3, 10) + ", 9 plain " + at(3, 12) + " " + at(3, 13) +
		", 4 pair " + at(4, 14) + " " + at(4, 16) + ", 5 key " + at(4, 14) + " " + at(4, 15)
	if shape(l) != want {
		t.Errorf("the tree is\n%s, not\n%s", shape(l), want)
	}
	if behind != state("%0 %"+strconv.Itoa(k)+" !") {
		t.Errorf("the state behind it is %v", behind)
	}
}

// anyText is a line of a text, whatever it holds, but a line's end; it is no blank one.
func anyText(seed *uint64) string {
	var b strings.Builder
	for range 1 + turn(seed, 6) {
		if turn(seed, 2) == 0 {
			b.WriteString([]string{"- ", "a: ", "#", "|", "---", "'", "\"", "\t", "  ", "...", ">2", "\r", ":"}[turn(seed, 13)])
		} else if c := byte(turn(seed, 256)); c != 10 {
			b.WriteByte(c)
		}
	}
	b.WriteByte("x#-:'|\\\x00\xff"[turn(seed, 9)])
	return b.String()
}

// scalarOf writes a block scalar of lines of any text behind ahead, each count columns deep; the lines, and the text. If told is false, the first line stands just as deep; else the sign says how deep they stand.
func scalarOf(seed *uint64, ahead, sign string, count int, told bool) ([]string, string) {
	var own []string
	text := ahead + sign + "\n"
	for i := range 1 + turn(seed, 5) {
		if turn(seed, 4) == 0 {
			text += blanks(turn(seed, 10)) + []string{"\n", "\t\n", "\r\n"}[turn(seed, 3)]
		}
		line := anyText(seed)
		if i == 0 && !told {
			line = strings.TrimLeft(line, " ")
		}
		own = append(own, line)
		text += blanks(count) + line + []string{"\n", "\r\n"}[turn(seed, 2)]
	}
	return own, text
}

// P14.7: the lines of a block scalar, whatever they hold, are told as they stand behind its indentation; what is behind it goes on as if it were any other scalar.
func TestScalarsOfAnything(t *testing.T) {
	seed := uint64(7)
	for _, x := range []struct {
		ahead  string
		col    int // the column that is open
		behind string
		want   string // what is told of that
	}{
		{"", -1, "", ""},
		{"a: ", 0, "b: c\n", "key plain"},
		{"- ", 0, "- c\n", "dash plain"},
		{"a:\n- ", 0, "- c\n", "dash plain"},
		{"a:\n  b:   ", 2, "  b: c\n", "key plain"},
		{"- - a: ", 4, "    b: c\n", "key plain"},
		{"--- # x\n- x\n-   'k' : ", 4, "# c\n- b\n", "dash plain"},
	} {
		for range 400 {
			count := x.col + 1 + turn(&seed, 9)
			told := turn(&seed, 2) == 0 && count > max(x.col, 0)
			sign := []string{"|", ">", "|-", ">+"}[turn(&seed, 4)]
			if told {
				sign += strconv.Itoa(count - max(x.col, 0))
			} else {
				count = max(count, 1)
			}
			own, text := scalarOf(&seed, x.ahead, sign+[]string{"", " ", " # x"}[turn(&seed, 3)], count, told)
			nodes, _ := treeOf(t, text+x.behind)
			var lines, last []string
			blocks := 0
			for i, n := range nodes {
				switch {
				case n.Kind == api.YamlLine:
					lines = append(lines, text[n.From:n.To])
				case n.Kind == api.YamlBlock:
					blocks++
					if n.To != len(text) || n.Depth != nodes[i-1].Depth {
						t.Fatalf("the block scalar of %q is %v", text, n)
					}
				case n.Kind == api.KindError:
					t.Fatalf("the tree of %q has an error: %s", text, shape(nodes))
				case n.From >= len(text) && (n.Kind == api.YamlKey || n.Kind == api.YamlDash || n.Kind == api.YamlPlain):
					last = append(last, words[n.Kind])
				}
			}
			if !slices.Equal(lines, own) || blocks != 1 || strings.Join(last, " ") != x.want {
				t.Fatalf("the tree of %q is %s; its lines are %q, not %q", text+x.behind, shape(nodes), lines, own)
			}
		}
	}
}
