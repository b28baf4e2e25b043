package shdoc_test

import (
	"slices"
	"strconv"
	"strings"
	"testing"

	"indenture/api"
	"indenture/build"
	"indenture/shdoc"
	"indenture/tree"
)

// pieces are what lines are made of.
var pieces = []string{
	" ", " ", "\t", "'", `"`, `\`, `\\`, "#", " # ", "<<", "<<", "<<-", "<<E", "<< F", "<<-'E'", "<<''", "&&", "|", ";", ">", "<", "(", ")", "a", "b c", "E", "F", "$x", "\r", "\n", "\x00", "\xff", "\xc3\xa9", "''",
}

// turn goes on to the next number of a row that looks unordered, and answers one from 0 to n - 1.
func turn(seed *uint64, n int) int {
	*seed = *seed*6364136223846793005 + 1442695040888963407
	return int(*seed >> 33 % uint64(n))
}

// anyBytes are at most n bytes, whatever they are.
func anyBytes(seed *uint64, n int) string {
	b := make([]byte, turn(seed, n+1))
	for i := range b {
		b[i] = byte(turn(seed, 256))
	}
	return string(b)
}

// anyLine is a line of whatever bytes, of pieces that mean something, or one that may end a document.
func anyLine(seed *uint64) string {
	end := []string{"", "\n", "\n", "\n", "\\\n", "\r\n"}[turn(seed, 6)]
	switch turn(seed, 8) {
	case 0:
		return anyBytes(seed, 12) + end
	case 1, 2, 3:
		return strings.Repeat("\t", turn(seed, 3)) + anyWord(seed) + end
	}
	var b strings.Builder
	for range turn(seed, 9) {
		b.WriteString(pieces[turn(seed, len(pieces))])
	}
	return b.String() + end
}

// anyWord is what may end a document.
func anyWord(seed *uint64) string {
	return []string{"E", "E", "F", "", "\tE", "a b", "\n", "E\\", strings.Repeat("x", api.MaxWord)}[turn(seed, 9)]
}

// anyState is a state of the shell's.
func anyState(seed *uint64) api.State {
	m := model{mode: uint8(turn(seed, 3))}
	if m.mode == 0 {
		return nothing
	}
	for range turn(seed, api.MaxDocs+1) {
		m.docs = append(m.docs, api.Doc{Word: anyWord(seed), Strip: turn(seed, 2) == 0, Raw: turn(seed, 2) == 0})
	}
	if m.mode == 1 {
		m.mark = []byte{0, '\'', '"'}[turn(seed, 3)]
	} else if len(m.docs) == 0 {
		m.docs = append(m.docs, doc("E"))
	}
	return m.state()
}

// openNodes are the kinds of the nodes that are open in a state, by what Words says.
func openNodes(s api.State) []uint8 {
	switch s.Mode {
	case 1:
		return []uint8{api.ShLine}
	case 2:
		return []uint8{api.ShDoc}
	}
	return nil
}

// mayLie tells whether a node of the kind may lie right within one of the kind of over, 0 being the text.
func mayLie(kind, over uint8) bool {
	switch kind {
	case api.ShLine, api.ShDoc:
		return over == 0
	case api.ShText, api.ShDelim:
		return over == api.ShDoc
	case api.ShComment:
		return over != api.ShDoc
	case api.KindError:
		return true
	}
	return over == api.ShLine
}

// holdEvents holds that events are in order, and within the line; that they open and close in turn, each where it may; answered are the kinds of what is open behind them.
func holdEvents(t *testing.T, ev []api.Event, bytes int, open []uint8) []uint8 {
	t.Helper()
	far := 0
	for _, e := range ev {
		over := uint8(0)
		if len(open) > 0 {
			over = open[len(open)-1]
		}
		is := e.At >= far && e.At <= bytes
		far = e.At
		switch e.Op {
		case api.OpOpen:
			is = is && mayLie(e.Kind, over) && e.To == 0
			open = append(open, e.Kind)
		case api.OpClose:
			is = is && over != 0 && e.Kind == 0 && e.To == 0
			open = open[:max(len(open), 1)-1]
		default:
			is = is && e.Op == api.OpLeaf && mayLie(e.Kind, over) && e.To >= e.At && e.To <= bytes
			far = e.To
		}
		if !is {
			t.Fatalf("%v may not stand among %s", e, told(ev))
		}
	}
	return open
}

// holdBuilt holds that a builder that has open what the state says takes the events, and has open behind them what the state behind says.
func holdBuilt(t *testing.T, s api.State, ev []api.Event, behind api.State) {
	t.Helper()
	b := build.New(api.KindText)
	for _, kind := range openNodes(s) {
		b.Put([]api.Event{{Op: api.OpOpen, Kind: kind}}, 0)
	}
	if err := b.Put(ev, 0); err != api.OK || b.Open() != len(openNodes(behind)) {
		t.Fatalf("a builder of %v and %s: %v; %d nodes are open behind it", s, told(ev), err, b.Open())
	}
}

// holdLine holds all that is promised of a line from a state; answered is the state behind it.
func holdLine(t *testing.T, s api.State, line string) api.State {
	t.Helper()
	holdModel(t, s, line)
	ev, behind := shdoc.Scan(s, line)
	if !shdoc.Own(behind) {
		t.Fatalf("behind Scan(%v, %q) is %v, which is no state of the shell's", s, line, behind)
	}
	if open := holdEvents(t, ev, len(line), openNodes(s)); !slices.Equal(open, openNodes(behind)) {
		t.Fatalf("behind Scan(%v, %q) is open %v, and the state is %v", s, line, open, behind)
	}
	holdBuilt(t, s, ev, behind)
	end := shdoc.End(behind)
	if open := holdEvents(t, end, 0, openNodes(behind)); len(open) != 0 {
		t.Fatalf("behind End(%v) is open %v", behind, open)
	}
	holdBuilt(t, behind, end, nothing)
	return behind
}

// P16.2 to P16.5: from every state, whatever the line.
func TestAnyStateAndLine(t *testing.T) {
	seed := uint64(16)
	kinds := map[uint8]int{}
	for range 150000 {
		s, line := anyState(&seed), anyLine(&seed)
		holdLine(t, s, line)
		ev, _ := shdoc.Scan(s, line)
		for _, e := range ev {
			kinds[e.Kind]++
		}
	}
	for kind, word := range words {
		if kinds[kind] < 1000 {
			t.Errorf("%s is told %d times: the lines try too little", word, kinds[kind])
		}
	}
}

// P16.2 to P16.5: lines that stand one behind the other, each from the state behind the one ahead.
func TestAnyLinesInARow(t *testing.T) {
	seed := uint64(5)
	ended, wait := 0, 0
	for range 2000 {
		s := nothing
		for range 40 {
			behind := holdLine(t, s, anyLine(&seed))
			if s.Mode == 2 && behind != s {
				ended++
			}
			s = behind
			wait = max(wait, s.Wait)
		}
	}
	if ended < 500 || wait < api.MaxDocs {
		t.Errorf("%d documents ended, at most %d waited: the lines try too little", ended, wait)
	}
}

// lines are all lines of at most n of the pieces.
func lines(n int, pieces ...string) []string {
	all := []string{""}
	for from := 0; n > 0; n-- {
		to := len(all)
		for _, line := range all[from:to] {
			for _, x := range pieces {
				all = append(all, line+x)
			}
		}
		from = to
	}
	return all
}

// P16.2 to P16.5: all lines of few of the pieces that mean something, from states of every kind.
func TestShortLines(t *testing.T) {
	all := append(lines(4, " ", "\t", "E", "<<", "-", "'", "#", "\n"), lines(4, "a", `"`, "\\", "\n", "<", ";", "''")...)
	for _, s := range someStates {
		for _, line := range all {
			holdLine(t, s, line)
		}
	}
}

// P16.1 to P16.5, R1: whatever the state: what is none tells what the zero state does.
func TestAnyStateAtAll(t *testing.T) {
	seed := uint64(3)
	for range 50000 {
		s := anyState(&seed)
		n := turn(&seed, 256)
		switch turn(&seed, 9) {
		case 0:
			s.Depth = n - 100
		case 1:
			s.Stack[turn(&seed, api.MaxStack)].Col = n - 3
		case 2:
			s.Mode = uint8(n % 4)
		case 3:
			s.Mark = byte(n)
		case 4:
			s.Flags = uint8(n % 2)
		case 5:
			s.Count = n - 100
		case 6:
			s.Wait = n%8 - 2
		case 7:
			s.Docs[turn(&seed, api.MaxDocs)] = api.Doc{Word: strings.Repeat("E", n), Strip: n%2 == 0}
		}
		holdModel(t, s, anyLine(&seed))
	}
}

// P16.6: whatever stands in the lines between, each of them is one ShText, until one is the word.
func TestAnyDocument(t *testing.T) {
	seed := uint64(6)
	for range 20000 {
		word := anyBytes(&seed, 8)
		if turn(&seed, 2) == 0 {
			word = anyWord(&seed)
		}
		word = strings.NewReplacer("\n", "", "'", "").Replace(word)
		strip := turn(&seed, 2) == 0
		if strip {
			word = strings.TrimLeft(word, "\t")
		}
		sign := map[bool]string{false: "<<", true: "<<-"}[strip]
		_, s := shdoc.Scan(nothing, "cat "+sign+"'"+word+"' x # y\n")
		want := state(2, 0, "")
		want.Docs[0] = api.Doc{Word: word, Strip: strip, Raw: true}
		if s != want {
			t.Fatalf("the state in the document of %q is %v", word, s)
		}
		for range turn(&seed, 6) {
			line := strings.ReplaceAll(anyLine(&seed), "\n", "") + "\n"
			if own := strings.TrimSuffix(line, "\n"); own == word || strip && strings.TrimLeft(own, "\t") == word {
				continue
			}
			hold(t, s, line, "text 0 "+strconv.Itoa(len(line)), s)
		}
		ahead := ""
		if strip {
			ahead = strings.Repeat("\t", turn(&seed, 3))
		}
		from, to := strconv.Itoa(len(ahead)), strconv.Itoa(len(ahead+word))
		hold(t, s, ahead+word+"\n", "delim "+from+" "+to+", close "+strconv.Itoa(len(ahead+word)+1), nothing)
	}
}

// treeOf is the tree of a text, whose lines are scanned one behind the other: of each node its depth, its kind, From and To.
func treeOf(t *testing.T, text string) string {
	t.Helper()
	b, s, at := build.New(api.KindText), nothing, 0
	for line := range strings.Lines(text) {
		ev, behind := shdoc.Scan(s, line)
		if err := b.Put(ev, at); err != api.OK {
			t.Fatalf("the events of %q: %v", line, err)
		}
		at, s = at+len(line), behind
	}
	b.Put(shdoc.End(s), at)
	l, err := b.Done(len(text))
	if err != api.OK || tree.Check(l, len(text)) != api.OK {
		t.Fatalf("what %q makes is no tree", text)
	}
	var rows []string
	for _, x := range l[1:] {
		rows = append(rows, strings.Join([]string{strconv.Itoa(x.Depth), words[x.Kind], strconv.Itoa(x.From), strconv.Itoa(x.To)}, " "))
	}
	return strings.Join(rows, ", ")
}

// P16.2 to P16.5: the trees of whole texts.
func TestTrees(t *testing.T) {
	for _, x := range []struct{ text, want string }{
		{"", ""},
		{"# a\n\nb\n", "1 comment 0 3, 1 line 5 6, 2 word 5 6"},
		{"cat <<A\n$x\nA\n", "1 line 0 7, 2 word 0 3, 2 op 4 6, 2 word 6 7, 1 doc 8 13, 2 text 8 11, 2 delim 11 12"},
		{"cat <<A\n$x\nAb\n", "1 line 0 7, 2 word 0 3, 2 op 4 6, 2 word 6 7, 1 doc 8 14, 2 text 8 11, 2 text 11 14, 2 error 14 14"},
		{"<<A <<-B\nA\n\tB\nc", "1 line 0 8, 2 op 0 2, 2 word 2 3, 2 op 4 7, 2 word 7 8, 1 doc 9 11, 2 delim 9 10, 1 doc 11 14, 2 delim 12 13, 1 line 14 15, 2 word 14 15"},
		{"<<A <<B", "1 line 0 7, 2 op 0 2, 2 word 2 3, 2 op 4 6, 2 word 6 7, 1 doc 7 7, 2 error 7 7, 1 error 7 7"},
		{"a <<B 'c\nB\nd", "1 line 0 12, 2 word 0 1, 2 op 2 4, 2 word 4 5, 2 word 6 9, 2 word 9 11, 2 word 11 12, 2 error 12 12, 1 error 12 12"},
		{"a \\\n\n", "1 line 0 4, 2 word 0 1, 2 join 2 4"},
		{"a \\\n", "1 line 0 4, 2 word 0 1, 2 join 2 4, 2 error 4 4"},
	} {
		if l := treeOf(t, x.text); l != x.want {
			t.Errorf("the tree of %q is\n%s, not\n%s", x.text, l, x.want)
		}
	}
}

// R1: nothing is promised of a line of more than MaxText bytes but that it is read.
func TestLongLines(t *testing.T) {
	for _, piece := range []string{" ", "\t", "a", "a ", "#", "'", `"`, `\`, "<<", "<<E ", "\r", "\n", "\x00"} {
		line := strings.Repeat(piece, api.MaxText/len(piece)+9)
		for _, s := range someStates {
			_, behind := shdoc.Scan(s, line)
			shdoc.End(behind)
			if !shdoc.Own(behind) {
				t.Errorf("behind %q, so often, is no state of the shell's: %v", piece, behind)
			}
		}
	}
}
