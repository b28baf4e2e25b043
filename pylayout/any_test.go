package pylayout_test

import (
	"slices"
	"strings"
	"testing"

	"indenture/api"
	"indenture/build"
	"indenture/pylayout"
)

// pieces are what lines are made of.
var pieces = []string{
	" ", " ", " ", "  ", "\t", "\f", "\r", "\n", "\r\n", "#", ":", ":", ":", "(", "[", ")", "]", "}", "\\", "\\", "'", `"`, "'''", `"""`, "if", "x", "y_1", "1e", "0x", "=", ":=", ",", ".", "...", "$", "!", "\x00", "\v", "\x80", "\xff", "\xc3\xa9",
}

// anyLine is a line: an indentation, and whatever bytes, or pieces that mean something.
func anyLine(seed *uint64) string {
	var b strings.Builder
	for range turn(seed, 4) * turn(seed, 7) {
		b.WriteByte(" \t  "[turn(seed, 4)])
	}
	bytes := turn(seed, 4) == 0
	for range turn(seed, 10) {
		if bytes {
			b.WriteByte(byte(turn(seed, 256)))
		} else {
			b.WriteString(pieces[turn(seed, len(pieces))])
		}
	}
	switch turn(seed, 6) {
	case 0, 1:
		b.WriteString(":\n")
	case 2, 3:
		b.WriteString("\n")
	case 4:
		b.WriteString("\\\r\n")
	}
	return b.String()
}

// anyState is a state of Python.
func anyState(seed *uint64) api.State {
	var m model
	depth, widest := turn(seed, 18), 1+turn(seed, 6)
	if turn(seed, 3) > 0 {
		depth /= 3
	}
	for col := 0; len(m.cols) < min(depth, api.MaxStack); {
		col += 1 + turn(seed, widest)
		m.cols = append(m.cols, col)
	}
	if n := len(m.cols); n > 0 && turn(seed, 20) == 0 {
		m.cols[n-1] = 8*most - turn(seed, 9)
	}
	m.flag = turn(seed, 2) == 0
	if m.within = turn(seed, 3) == 0; m.within {
		m.mark = byte(turn(seed, 5))
		m.depth = turn(seed, 4)
		if turn(seed, 20) == 0 {
			m.depth = most - m.depth
		}
	}
	return m.state()
}

// openNodes are the kinds of the nodes that are open in a state, the outermost first.
func openNodes(s api.State) []uint8 {
	l := slices.Repeat([]uint8{api.PyBlock}, s.Depth)
	if s.Mode == 1 {
		l = append(l, api.PySimple)
	}
	return l
}

// holdEvents holds that events are in order, and within the line up to its end; that they open and close in turn; and that what is open behind them is what the state behind says.
func holdEvents(t *testing.T, s api.State, line string) api.State {
	t.Helper()
	ev, behind := pylayout.Scan(s, line)
	fail := func(why string) {
		t.Helper()
		t.Fatalf("Scan(%v, %q) = %s, %v: %s", s, line, told(ev), behind, why)
	}
	if _, is := modelOf(behind); !is {
		fail("no state of Python")
	}
	far, open := 0, openNodes(s)
	for _, e := range ev {
		if e.At < far || e.At > len(ended(line)) {
			fail("out of order")
		}
		far = e.At
		switch e.Op {
		case api.OpOpen:
			if len(open) > 0 && open[len(open)-1] == api.PySimple {
				fail("a node within a logical line")
			}
			open = append(open, e.Kind)
		case api.OpClose:
			if len(open) == 0 {
				fail("nothing is open")
			}
			last := open[len(open)-1]
			if block := e.Kind == 0; block != (last == api.PyBlock) || !block && e.Kind != api.PySimple && e.Kind != api.PyHead {
				fail("a node becomes what it may not be")
			}
			open = open[:len(open)-1]
		case api.OpLeaf:
			if e.To < e.At || e.To > len(ended(line)) {
				fail("a leaf that is out of bounds")
			}
			far = e.To
		default:
			fail("no such Op")
		}
		if e.Op != api.OpLeaf && e.To != 0 {
			fail("a To that means nothing")
		}
	}
	if !slices.Equal(open, openNodes(behind)) {
		fail("other nodes are open than the state says")
	}
	return behind
}

// holdBuilt holds that a builder takes the events, in which is open what the state says; behind them, and what End tells, too.
func holdBuilt(t *testing.T, s api.State, line string) {
	t.Helper()
	b := build.New(api.KindText)
	for _, kind := range openNodes(s) {
		b.Put([]api.Event{begin(kind, 0)}, 0)
	}
	ev, behind := pylayout.Scan(s, line)
	if err := b.Put(ev, 0); err != api.OK || b.Open() != len(openNodes(behind)) {
		t.Fatalf("a builder of %v, %q: %v; %d nodes are open behind it", s, line, err, b.Open())
	}
	if err := b.Put(pylayout.End(behind), len(line)); err != api.OK || b.Open() != len(openNodes(behind)) {
		t.Fatalf("a builder of %v, %q and its end: %v; %d nodes are open behind it", s, line, err, b.Open())
	}
}

// P12.5: from every state, whatever the line.
func TestAnyStateAndLine(t *testing.T) {
	seed := uint64(12)
	for range 100000 {
		s, line := anyState(&seed), anyLine(&seed)
		holdEvents(t, s, line)
		holdBuilt(t, s, line)
		holdModel(t, s, line)
	}
}

// P12.5: lines that stand one behind the other, each from the state behind the one ahead.
func TestAnyLinesInARow(t *testing.T) {
	seed := uint64(5)
	heads, frames := 0, 0
	for range 1500 {
		var s api.State
		for range 60 {
			line := anyLine(&seed)
			holdModel(t, s, line)
			s = holdEvents(t, s, line)
			if s.Mode == 0 && s.Flags == 1 {
				heads++
			}
			frames = max(frames, s.Depth)
		}
	}
	if heads < 1000 || frames < 4 {
		t.Errorf("%d heads, at most %d frames: the lines try too little", heads, frames)
	}
}

// P12.5: all lines of few bytes of those that mean something, from states of every kind.
func TestShortLines(t *testing.T) {
	letters := " \t#:\\(')x\r\n\f"
	all := []string{""}
	for from, n := 0, 0; n < 3; n++ {
		to := len(all)
		for _, line := range all[from:to] {
			for i := range len(letters) {
				all = append(all, line+letters[i:i+1])
			}
		}
		from = to
	}
	for _, s := range append(bases(), cols(1, 2), behindHead(cols(1, 9)), inLine(cols(8), 3, 1, 2)) {
		for _, line := range all {
			holdModel(t, s, line)
			holdEvents(t, s, line)
		}
	}
}

// R1: whatever state and line, a call ends and does not panic; a state that is none tells what the zero state does.
func TestAnyStateAtAll(t *testing.T) {
	seed := uint64(3)
	for range 20000 {
		s := anyState(&seed)
		n := turn(&seed, 256)
		switch turn(&seed, 8) {
		case 0:
			s.Depth = n - 100
		case 1:
			s.Stack[turn(&seed, api.MaxStack)].Col = n - 3
		case 2:
			s.Stack[turn(&seed, api.MaxStack)].Kind = uint8(n)
		case 3:
			s.Mode = uint8(n)
		case 4:
			s.Mark = byte(n)
		case 5:
			s.Flags = uint8(n)
		case 6:
			s.Count = n - 100
		case 7:
			s.Wait = n - 100
		}
		line := anyLine(&seed)
		holdModel(t, s, line)
		_, is := modelOf(s)
		want := is && (s.Mode == 1 || s.Flags == 1)
		if ev := pylayout.End(s); len(ev) > 0 != want {
			t.Fatalf("End(%v) = %s", s, told(ev))
		}
	}
	// Nothing is promised of a line of more than MaxText bytes but that it is read.
	for _, line := range []string{strings.Repeat("\t", most+9) + "x:", strings.Repeat("(", most+9), strings.Repeat(" ", most+9), strings.Repeat("#", most+9)} {
		for _, s := range []api.State{cols(), behindHead(cols()), behindHead(cols(8 * most)), inLine(cols(1), 0, most, 2)} {
			_, behind := pylayout.Scan(s, line)
			pylayout.Scan(behind, line)
			pylayout.End(behind)
		}
	}
}
