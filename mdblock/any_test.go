package mdblock_test

import (
	"slices"
	"strings"
	"testing"

	"indenture/api"
	"indenture/build"
	"indenture/mdblock"
)

// pieces are what lines are made of.
var pieces = []string{
	" ", " ", " ", "  ", "    ", "\t", "\t", "\r", "\n", ">", ">", "> ", "> ", "- ", "- ", "-", "* ", "+ ", "1. ", "2. ", "1) ", "0. ", "123456789. ", "#", "# ", " #", "##", "~~~", "~~~~", "```", "`", "=", "===", "---", "***", "* *", "_ _ _", "[a]: b", "[a]:", "[b", "a", "b c", `\`, "\x00", "\f", "\x80", "\xff", "\xc3\xa9",
}

// anyLine is a line: blanks, marks of frames, and whatever bytes, or pieces that mean something.
func anyLine(seed *uint64) string {
	var b strings.Builder
	for range turn(seed, 5) {
		b.WriteString([]string{"> ", ">", "- ", " ", "  ", "    ", "\t", "1. ", "* ", ""}[turn(seed, 10)])
	}
	switch turn(seed, 10) {
	case 0:
		for range turn(seed, 8) {
			b.WriteByte(byte(turn(seed, 256)))
		}
	case 1:
		b.WriteString([]string{"", "~~~", "```` x", "===", "-", "# a #", "***", "[a]: b 'c'", "x"}[turn(seed, 9)])
	case 2, 3:
	default:
		for range turn(seed, 6) {
			b.WriteString(pieces[turn(seed, len(pieces))])
		}
	}
	return b.String() + []string{"", "\n", "\n", "\r\n", "\nx", "\n> x"}[turn(seed, 6)]
}

// anyState is a state of Markdown.
func anyState(seed *uint64) api.State {
	var m model
	depth := turn(seed, 20)
	if turn(seed, 3) > 0 {
		depth /= 5
	}
	for range min(depth, api.MaxStack) {
		l := level{sign: '>'}
		if turn(seed, 3) > 0 {
			l = level{"-+*.)"[turn(seed, 5)], 2 + turn(seed, 3), turn(seed, 3) == 0, turn(seed, 3) == 0}
			if turn(seed, 6) == 0 {
				l.col = 2 + turn(seed, 16)
			}
		}
		m.levels = append(m.levels, l)
	}
	m.block = "\x00p\x00pc~`"[turn(seed, 7)]
	if m.block == '~' || m.block == '`' {
		m.count, m.shift = 3+turn(seed, 2), turn(seed, 4)
		if turn(seed, 20) == 0 {
			m.count = most - turn(seed, 3)
		}
	}
	return m.state()
}

// openNodes are the kinds of the nodes that are open in a state, the outermost first.
func openNodes(s api.State) []uint8 {
	var l []uint8
	for _, f := range s.Stack[:s.Depth] {
		if f.Kind == api.MdQuote {
			l = append(l, api.MdQuote)
		} else {
			l = append(l, api.MdTight, api.MdItem)
		}
	}
	switch s.Mode {
	case 1:
		l = append(l, api.MdPara)
	case 2:
		l = append(l, api.MdFence)
	case 3:
		l = append(l, api.MdCode)
	}
	return l
}

// holdsBlocks tells whether blocks may lie right within a node of the kind, 0 being the text.
func holdsBlocks(kind uint8) bool {
	return kind == 0 || kind == api.MdQuote || kind == api.MdItem
}

// mayLie tells whether what a node of the kind, or of text (0), is may lie right within one of the kind of over.
func mayLie(kind, over uint8) bool {
	switch kind {
	case 0:
		return over == api.MdPara || over == api.MdHead
	case api.MdItem:
		return over == api.MdTight
	case api.MdRaw:
		return over == api.MdCode || over == api.MdFence
	case api.MdMark:
		// Also a quote's that goes on, within whatever is open in it.
		return over != 0
	}
	return holdsBlocks(over)
}

// holdEvents holds that events are in order, and within the line up to its end; that they open and close in turn; answered are the kinds of what is open behind them.
func holdEvents(t *testing.T, ev []api.Event, bytes int, open []uint8) []uint8 {
	t.Helper()
	far := 0
	for _, e := range ev {
		over := uint8(0)
		if len(open) > 0 {
			over = open[len(open)-1]
		}
		is := e.At >= far && e.At <= bytes
		far = e.At
		switch e.Op {
		case api.OpOpen:
			is = is && e.To == 0 && mayLie(e.Kind, over)
			open = append(open, e.Kind)
		case api.OpClose:
			is = is && e.To == 0 && over != 0 && (e.Kind == 0 || e.Kind == api.MdUnder && over == api.MdPara || e.Kind == api.MdLoose && over == api.MdTight)
			open = open[:max(len(open), 1)-1]
		case api.OpLeaf, api.OpText:
			is = is && e.To > e.At && e.To <= bytes && mayLie(e.Kind, over) && (e.Kind == 0) == (e.Op == api.OpText)
			far = e.To
		default:
			is = false
		}
		if !is {
			t.Fatalf("%v may not stand among %s", e, told(ev))
		}
	}
	return open
}

// holdBuilt holds that a builder that has open what the state says takes the events, and has open behind them what the state behind says.
func holdBuilt(t *testing.T, s api.State, ev []api.Event, behind api.State) {
	t.Helper()
	b := build.New(api.KindText)
	for _, kind := range openNodes(s) {
		b.Put([]api.Event{begin(kind, 0)}, 0)
	}
	var put []api.Event
	for _, e := range ev {
		// A builder takes no text: spans come in its place.
		if e.Op == api.OpText {
			e.Op, e.Kind = api.OpLeaf, api.MdSpan
		}
		put = append(put, e)
	}
	if err := b.Put(put, 0); err != api.OK || b.Open() != len(openNodes(behind)) {
		t.Fatalf("a builder of %v and %s: %v; %d nodes are open behind it", s, told(ev), err, b.Open())
	}
}

// holdLine holds all that is promised of a line from a state; answered is the state behind it.
func holdLine(t *testing.T, s api.State, line string) api.State {
	t.Helper()
	holdModel(t, s, line)
	ev, behind := mdblock.Scan(s, line)
	if _, is := modelOf(behind); !is {
		t.Fatalf("behind Scan(%v, %q) is %v, which is no state of Markdown", s, line, behind)
	}
	if open := holdEvents(t, ev, len(ended(line)), openNodes(s)); !slices.Equal(open, openNodes(behind)) {
		t.Fatalf("behind Scan(%v, %q) is open %v, and the state is %v", s, line, open, behind)
	}
	holdBuilt(t, s, ev, behind)
	end := mdblock.End(behind)
	if open := holdEvents(t, end, 0, openNodes(behind)); len(open) != 0 {
		t.Fatalf("behind End(%v) is open %v", behind, open)
	}
	if want := finish(behind); !slices.Equal(end, want) {
		t.Fatalf("End(%v) = %s, not %s", behind, told(end), told(want))
	}
	return behind
}

// P19.1 to P19.9: from every state, whatever the line.
func TestAnyStateAndLine(t *testing.T) {
	seed := uint64(19)
	kinds := map[uint8]int{}
	for range 150000 {
		s, line := anyState(&seed), anyLine(&seed)
		holdLine(t, s, line)
		ev, _ := mdblock.Scan(s, line)
		for _, e := range ev {
			kinds[e.Kind]++
		}
	}
	for kind, word := range words {
		if kinds[kind] < 200 {
			t.Errorf("%s is told %d times: the lines try too little", word, kinds[kind])
		}
	}
}

// P19.1 to P19.9: lines that stand one behind the other, each from the state behind the one ahead.
func TestAnyLinesInARow(t *testing.T) {
	seed := uint64(5)
	frames, modes, loose := 0, map[uint8]int{}, 0
	for range 3000 {
		var s api.State
		for range 40 {
			s = holdLine(t, s, anyLine(&seed))
			frames = max(frames, s.Depth)
			modes[s.Mode]++
			for _, f := range s.Stack {
				loose += int(f.Flags & 1)
			}
		}
	}
	if frames < 9 || modes[1] < 9000 || modes[2] < 9000 || modes[3] < 900 || loose < 900 {
		t.Errorf("at most %d frames, Modes %v, %d loose lists: the lines try too little", frames, modes, loose)
	}
}

// lines are all lines of at most n of the pieces.
func lines(n int, pieces ...string) []string {
	all := []string{""}
	for from := 0; n > 0; n-- {
		to := len(all)
		for _, line := range all[from:to] {
			for _, x := range pieces {
				all = append(all, line+x)
			}
		}
		from = to
	}
	return all
}

// P19.1 to P19.9: all lines of few of the pieces that mean something, from states of every kind.
func TestShortLines(t *testing.T) {
	all := append(lines(4, " ", "\t", ">", "- ", "-", "x"), lines(3, "  ", "1. ", "2) ", "#", "~~~", "```", "=", "* ", "[a]:b", "\r\n")...)
	for _, signs := range someStates {
		s := state(signs)
		for _, line := range all {
			holdLine(t, s, line)
		}
	}
}

// P19.1, P19.2, P19.3, P19.7: columns, whatever blanks and tabs make them.
func TestBlanksAndTabs(t *testing.T) {
	all := lines(5, " ", "\t", "   ")
	for _, signs := range []string{"", ">", "-2", "-3", ".4", ")5", "> >", "> -2", "-2 >", "-2 -2", "-4 > .3", "-5", "-17", "~3", "`3:1", "~3:3", "-2 ~3:2", "> ~3:1", ".3 `4:3", "c", "> c", "-2 c", "-3 > c", "p", "> p", "-2 p", "-2B", "> -3LB"} {
		s := state(signs)
		for _, ahead := range []string{"", ">", " >", "\t>", "> >", ">\t>", "-", "> -", "-\t-", "1.", ">\t12)", "  *"} {
			for _, blanks := range all {
				for _, x := range []string{"", "x", ">", "- x", "~~~", "==="} {
					holdLine(t, s, ahead+blanks+x)
				}
			}
		}
	}
}

// R1, R9: whatever state and line, a call ends and does not panic; a state that is none tells what the zero state does.
func TestAnyStateAtAll(t *testing.T) {
	seed := uint64(3)
	for range 50000 {
		s := anyState(&seed)
		n := turn(&seed, 256)
		switch turn(&seed, 9) {
		case 0:
			s.Depth = n - 100
		case 1:
			s.Stack[turn(&seed, api.MaxStack)].Col = n%20 - 1
		case 2:
			s.Stack[turn(&seed, api.MaxStack)].Kind = uint8(n)
		case 3:
			s.Stack[turn(&seed, api.MaxStack)].Flags = uint8(n % 5)
		case 4:
			s.Mode = uint8(n % 5)
		case 5:
			s.Mark = byte(n)
		case 6:
			s.Flags = uint8(n % 5)
		case 7:
			s.Count = n - 100
		case 8:
			s.Stack[turn(&seed, api.MaxStack)].Mark = byte(n)
		}
		holdModel(t, s, anyLine(&seed))
		if ev, want := mdblock.End(s), finish(s); !slices.Equal(ev, want) {
			t.Fatalf("End(%v) = %s, not %s", s, told(ev), told(want))
		}
	}
}

// R1: a line of more than MaxText bytes is read, too.
func TestLongLines(t *testing.T) {
	for _, piece := range []string{" ", "\t", "> ", ">", "- ", "1. ", "#", "~", "`", "*", "=", "[", "[a]: ", "x", "\r", "\x00"} {
		for _, ahead := range []string{"", "> ", "- ", "    ", "# ", "~~~"} {
			line := ahead + strings.Repeat(piece, most/len(piece)+9)
			for _, signs := range someStates {
				_, behind := mdblock.Scan(state(signs), line)
				mdblock.Scan(behind, line)
				mdblock.End(behind)
			}
		}
	}
}
