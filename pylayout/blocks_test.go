package pylayout_test

import (
	"slices"
	"strconv"
	"strings"
	"testing"

	"indenture/api"
	"indenture/build"
	"indenture/pylayout"
	"indenture/tree"
)

// treeOf is the tree of a text, whose lines are scanned one behind the other, and the state behind it.
func treeOf(t *testing.T, text string) ([]api.Node, api.State) {
	t.Helper()
	b := build.New(api.KindText)
	var s api.State
	at := 0
	for line := range strings.Lines(text) {
		ev, behind := pylayout.Scan(s, line)
		if err := b.Put(ev, at); err != api.OK {
			t.Fatalf("the events of %q: %v", line, err)
		}
		at, s = at+len(line), behind
	}
	if err := b.Put(pylayout.End(s), at); err != api.OK {
		t.Fatalf("the end of %q: %v", text, err)
	}
	l, err := b.Done(len(text))
	if err != api.OK || tree.Check(l, len(text)) != api.OK {
		t.Fatalf("what %q makes is no tree", text)
	}
	return l, s
}

// shape tells a tree but for its root: of each node its depth, its kind, From and To.
func shape(l []api.Node) string {
	var rows []string
	for _, x := range l[1:] {
		rows = append(rows, strings.Join([]string{strconv.Itoa(x.Depth), words[x.Kind], strconv.Itoa(x.From), strconv.Itoa(x.To)}, " "))
	}
	return strings.Join(rows, ", ")
}

// P12.1 to P12.4: the trees of whole texts.
func TestTrees(t *testing.T) {
	for _, x := range []struct{ text, want string }{
		{"", ""},
		{"if a:\n  b\n", "1 head 0 5, 2 name 0 2, 2 name 3 4, 2 op 4 5, 1 block 6 10, 2 simple 8 9, 3 name 8 9"},
		{"if a:\nb\n", "1 head 0 5, 2 name 0 2, 2 name 3 4, 2 op 4 5, 1 error 6 6, 1 simple 6 7, 2 name 6 7"},
		{"a = (\n# x\n)\n", "1 simple 0 11, 2 name 0 1, 2 op 2 3, 2 op 4 5, 2 comment 6 9, 2 op 10 11"},
		// What is told of a text's end.
		{"a:", "1 head 0 2, 2 name 0 1, 2 op 1 2, 1 error 2 2"},
		{"a:\n # b\n", "1 head 0 2, 2 name 0 1, 2 op 1 2, 1 comment 4 7, 1 error 8 8"},
		{"a:\n b:", "1 head 0 2, 2 name 0 1, 2 op 1 2, 1 block 3 6, 2 head 4 6, 3 name 4 5, 3 op 5 6, 2 error 6 6"},
		{"a \\\n", "1 simple 0 4, 2 name 0 1, 2 join 2 3, 2 error 4 4"},
		{"(\n", "1 simple 0 2, 2 op 0 1, 2 error 2 2"},
		{"a: '''\nb", "1 simple 0 8, 2 name 0 1, 2 op 1 2, 2 part 3 6, 2 part 7 8, 2 error 8 8"},
		{"a: \\\n", "1 simple 0 5, 2 name 0 1, 2 op 1 2, 2 join 3 4, 2 error 5 5"},
		// A comment lies where what is open says; a block reaches up to the line that is of it no more.
		{"a:\n# c\n b\n# d\n\ne", "1 head 0 2, 2 name 0 1, 2 op 1 2, 1 comment 3 6, 1 block 7 15, 2 simple 8 9, 3 name 8 9, 2 comment 10 13, 1 simple 15 16, 2 name 15 16"},
		{"a:\r\n\tb:\r\n\t c\r\nd\r\n", "1 head 0 2, 2 name 0 1, 2 op 1 2, 1 block 4 14, 2 head 5 7, 3 name 5 6, 3 op 6 7, 2 block 9 14, 3 simple 11 12, 4 name 11 12, 1 simple 14 15, 2 name 14 15"},
		{"a:\n   b\n  c\n d", "1 head 0 2, 2 name 0 1, 2 op 1 2, 1 block 3 8, 2 simple 6 7, 3 name 6 7, 1 error 8 10, 1 simple 10 11, 2 name 10 11, 1 error 12 13, 1 simple 13 14, 2 name 13 14"},
	} {
		if l, _ := treeOf(t, x.text); shape(l) != x.want {
			t.Errorf("the tree of %q is\n%s, not\n%s", x.text, shape(l), x.want)
		}
	}
}

// writer writes a file of blocks in blocks, and the tree that it has to have.
type writer struct {
	seed  uint64
	text  strings.Builder
	nodes []api.Node
	open  []int // the blocks that are open, by their places in nodes
}

// heads and simples are logical lines: their leaves, each told by its kind and its bytes; a line begins behind each /.
var (
	heads = [][]string{
		{"name if", "name x", "op :"},
		{"name else", "op :", "comment # :"},
		{"name class", "name A", "op (", "/", "comment # )", "/", "/", "op )", "op :"},
		{"name while", "join \\", "/", "number 1", "op :"},
		{"name x", "op :", "join \\", "/"},
		{"op :", "join \\", "/", "join \\", "/", "comment # x"},
		{"name def", "name f", "op (", "name a", "op =", "part '''(", "/", "part : '''", "op )", "op :"},
		{"part \"\\", "/", "part \"", "op :"},
	}
	simples = [][]string{
		{"name pass"},
		{"error )"},
		{"name x", "op =", "string 'a:'", "comment # b:"},
		{"name f", "op (", "/", "/", "comment # :", "/", "number 1", "op :", "/", "op )"},
		{"name x", "op :", "name int"},
		{"name x", "op :", "join \\", "/", "name int"},
		{"part \"\"\"a", "/", "part if x:", "/", "part   y", "/", "part \"\"\""},
		{"join \\", "/", "join \\", "/"},
		{"error 'a:"},
	}
)

// end writes a line's end.
func (w *writer) end() {
	w.text.WriteString([]string{"\n", "\r\n"}[turn(&w.seed, 2)])
}

// put adds a node, as deep as the blocks that are open make it, and some more.
func (w *writer) put(kind uint8, from, to, more int) int {
	w.nodes = append(w.nodes, api.Node{Kind: kind, From: from, To: to, Depth: len(w.open) + 1 + more})
	return len(w.nodes) - 1
}

// indent writes blanks and tabs up to a column.
func (w *writer) indent(col int) {
	for now := 0; now < col; {
		if next := now - now%8 + 8; next <= col && turn(&w.seed, 3) > 0 {
			w.text.WriteByte('\t')
			now = next
		} else {
			w.text.WriteByte(' ')
			now++
		}
	}
}

// idle writes some lines that tell nothing of what is open, or none.
func (w *writer) idle() {
	for turn(&w.seed, 3) == 0 {
		w.indent(turn(&w.seed, 20))
		if turn(&w.seed, 2) == 0 {
			from := w.text.Len()
			w.text.WriteString("# if x:")
			w.put(api.PyComment, from, w.text.Len(), 0)
		}
		w.end()
	}
}

// logical writes a logical line that is indented to a column.
func (w *writer) logical(kind uint8, col int, leaves []string) {
	w.indent(col)
	own := w.put(kind, w.text.Len(), 0, 0)
	from := w.text.Len()
	for _, x := range leaves {
		if x == "/" {
			w.end()
			from = w.text.Len()
			continue
		}
		word, bytes, _ := strings.Cut(x, " ")
		if w.text.Len() > from {
			w.text.WriteByte(' ')
		}
		at := w.text.Len()
		w.text.WriteString(bytes)
		for kind, name := range words {
			if name == word {
				w.put(kind, at, w.text.Len(), 1)
			}
		}
	}
	w.nodes[own].To = w.text.Len()
	w.end()
}

// shut closes blocks, until n are open.
func (w *writer) shut(n int) {
	for len(w.open) > n {
		w.nodes[w.open[len(w.open)-1]].To = w.text.Len()
		w.open = w.open[:len(w.open)-1]
	}
}

// lines writes some lines that stand at a column, within n blocks, with blocks of their own, in each of which it is indented by at most wide columns more.
func (w *writer) lines(n, col, wide int) {
	for i := range 1 + turn(&w.seed, 3) {
		w.idle()
		if i == 0 && n > 0 {
			w.open = append(w.open, w.put(api.PyBlock, w.text.Len(), 0, 0))
		}
		w.shut(n)
		if n == api.MaxStack || turn(&w.seed, 2) == 0 {
			w.logical(api.PySimple, col, simples[turn(&w.seed, len(simples))])
			continue
		}
		w.logical(api.PyHead, col, heads[turn(&w.seed, len(heads))])
		w.lines(n+1, col+1+turn(&w.seed, wide), wide)
	}
}

// P12.6: files of blocks in blocks, as deep as there is room, however wide their indentations are.
func TestBlocks(t *testing.T) {
	deepest := 0
	for round := range 1500 {
		w := writer{seed: uint64(round)}
		w.lines(0, 0, []int{1, 4, 8, 60, 2000}[round%5])
		w.idle()
		text := w.text.String()
		w.shut(0)
		if len(text) > most {
			continue
		}
		l, behind := treeOf(t, text)
		if !slices.Equal(l[1:], w.nodes) {
			t.Fatalf("the tree of %q is\n%s, not\n%s", text, shape(l), shape(append(l[:1:1], w.nodes...)))
		}
		if behind.Mode != 0 || behind.Flags != 0 {
			t.Fatalf("behind %q the state is %v", text, behind)
		}
		for _, x := range l {
			deepest = max(deepest, x.Depth)
		}
	}
	if deepest != api.MaxStack+2 {
		t.Errorf("at most %d deep", deepest)
	}
}

// stairs are n heads, each but the first indented more than the one ahead, and their rows behind them: what the tree has of the heads whose blocks there is no room for, too.
func stairs(n, step int) (string, []string) {
	var text strings.Builder
	var rows []string
	for i := range n {
		at := text.Len()
		from := at + i*step
		place := func(more int) string { return strconv.Itoa(from + more) }
		if depth := strconv.Itoa(min(i, api.MaxStack) + 1); i > api.MaxStack {
			rows = append(rows, depth+" error "+strconv.Itoa(at)+" "+place(0), depth+" head "+place(0)+" "+place(2))
		} else {
			if i > 0 {
				rows = append(rows, strconv.Itoa(i)+" block "+strconv.Itoa(at)+" ")
			}
			rows = append(rows, depth+" head "+place(0)+" "+place(2))
		}
		inner := strconv.Itoa(min(i, api.MaxStack) + 2)
		rows = append(rows, inner+" name "+place(0)+" "+place(1), inner+" op "+place(1)+" "+place(2))
		text.WriteString(blanks(i*step) + "x:\n")
	}
	return text.String(), rows
}

// P12.6: heads in heads, up to as many blocks as there is room for, and beyond: there a line that is indented more is wrong, and lies in the last block.
func TestDeeperThanThereIsRoom(t *testing.T) {
	for _, step := range []int{1, 3, 8, 100} {
		for n := 1; n <= 24; n++ {
			text, rows := stairs(n, step)
			// All blocks that are open end with the text, and its end says that the last head has none.
			for i, row := range rows {
				if strings.HasSuffix(row, " ") {
					rows[i] += strconv.Itoa(len(text))
				}
			}
			end := strconv.Itoa(len(text))
			rows = append(rows, strconv.Itoa(min(n-1, api.MaxStack)+1)+" error "+end+" "+end)
			l, behind := treeOf(t, text)
			if shape(l) != strings.Join(rows, ", ") {
				t.Fatalf("the tree of %d heads is\n%s, not\n%s", n, shape(l), strings.Join(rows, ", "))
			}
			if behind.Depth != min(n-1, api.MaxStack) || behind.Flags != 1 {
				t.Fatalf("behind %d heads the state is %v", n, behind)
			}
		}
	}
}

// P12.6: a block whose indentation is nearly all of the text.
func TestWideBlock(t *testing.T) {
	k := most/2 - 10
	line := strings.Repeat("\t", k)
	l, behind := treeOf(t, "a:\n"+line+"b\n"+blanks(8)+line[1:]+"c\nd")
	leaf := func(kind string, at int) string {
		place := strconv.Itoa(at) + " " + strconv.Itoa(at+1)
		return "2 " + kind + " " + place + ", 3 name " + place + ", "
	}
	to := 3 + k + 2 + k + 9
	last := strconv.Itoa(to) + " " + strconv.Itoa(to+1)
	want := "1 head 0 2, 2 name 0 1, 2 op 1 2, 1 block 3 " + strconv.Itoa(to) + ", " + leaf("simple", 3+k) + leaf("simple", to-2) + "1 simple " + last + ", 2 name " + last
	if shape(l) != want || behind != cols() {
		t.Errorf("the tree is\n%s, not\n%s; the state behind it %v", shape(l), want, behind)
	}
}
