package yamlblock_test

import (
	"slices"
	"strings"
	"testing"

	"indenture/api"
	"indenture/build"
	"indenture/yamlblock"
)

// pieces are what lines are made of.
var pieces = []string{
	" ", " ", " ", "  ", "\t", "\r", "\n", "\r\n", "#", " # ", ":", ": ", ": ", ":\n", "- ", "- ", "- ", "-", "---", "...", "|", ">", "|2", ">-", " | ", "'", "''", "'a'", `"`, `"b"`, `\`, "a", "b c", "key: ", "x", "[", "&", "\x00", "\f", "\x80", "\xff", "\xc3\xa9",
}

// anyLine is a line: an indentation, and whatever bytes, or pieces that mean something.
func anyLine(seed *uint64) string {
	var b strings.Builder
	b.WriteString(blanks(turn(seed, 4) * turn(seed, 5)))
	for range turn(seed, 3) * turn(seed, 4) {
		b.WriteString([]string{"- ", "- ", "-  ", "a: "}[turn(seed, 4)])
	}
	if turn(seed, 12) == 0 {
		return b.String() + []string{"|\n", ">3\n", "| # x\n"}[turn(seed, 3)]
	}
	bytes := turn(seed, 6) == 0
	for range turn(seed, 6) {
		if bytes {
			b.WriteByte(byte(turn(seed, 256)))
		} else {
			b.WriteString(pieces[turn(seed, len(pieces))])
		}
	}
	switch turn(seed, 8) {
	case 0, 1:
		b.WriteString(":\n")
	case 2:
		b.WriteString(" |\n")
	case 3:
		b.WriteString("# x\r\n")
	case 4, 5:
		b.WriteString("\n")
	}
	return b.String()
}

// anyState is a state of YAML.
func anyState(seed *uint64) api.State {
	m := model{waits: turn(seed, 2) == 0}
	depth, widest := turn(seed, 18), 1+turn(seed, 5)
	if turn(seed, 3) > 0 {
		depth /= 3
	}
	for col := turn(seed, 3); len(m.levels) < min(depth, api.MaxStack); {
		n := len(m.levels)
		if n > 0 && m.levels[n-1].sign == '%' && turn(seed, 3) == 0 {
			m.levels = append(m.levels, level{'-', m.levels[n-1].col})
		} else {
			m.levels = append(m.levels, level{"%-"[turn(seed, 2)], col})
		}
		col += 1 + turn(seed, widest)
	}
	if n := len(m.levels); n > 0 && turn(seed, 20) == 0 {
		m.levels[n-1].col = most - turn(seed, 9)
	}
	if m.scalar = turn(seed, 4) == 0; m.scalar {
		m.waits = false
		m.count = turn(seed, 2) * turn(seed, 16)
		if turn(seed, 20) == 0 {
			m.count = most + turn(seed, 10)
		}
	}
	return m.state()
}

// openNodes are the kinds of the nodes that are open in a state, the outermost first.
func openNodes(s api.State) []uint8 {
	var l []uint8
	for _, f := range s.Stack[:s.Depth] {
		if f.Kind == api.YamlMap {
			l = append(l, api.YamlMap, api.YamlPair)
		} else {
			l = append(l, api.YamlSeq, api.YamlItem)
		}
	}
	if s.Mode == 1 {
		l = append(l, api.YamlBlock)
	}
	return l
}

// mayLie tells whether a node of the kind may lie right within one of the kind of over, 0 being the text.
func mayLie(kind, over uint8) bool {
	switch kind {
	case api.YamlPair:
		return over == api.YamlMap
	case api.YamlItem:
		return over == api.YamlSeq
	case api.YamlKey:
		return over == api.YamlPair
	case api.YamlDash:
		return over == api.YamlItem
	case api.YamlLine:
		return over == api.YamlBlock
	case api.YamlMark:
		return over == 0
	}
	return over == 0 || over == api.YamlPair || over == api.YamlItem
}

// holdEvents holds that events are in order, and within the line up to its end; that they open and close in turn; and that what is open behind them is what the state behind says.
func holdEvents(t *testing.T, s api.State, line string) api.State {
	t.Helper()
	ev, behind := yamlblock.Scan(s, line)
	fail := func(why string) {
		t.Helper()
		t.Fatalf("Scan(%v, %q) = %s, %v: %s", s, line, told(ev), behind, why)
	}
	if _, is := modelOf(behind); !is {
		fail("no state of YAML")
	}
	far, open := 0, openNodes(s)
	for _, e := range ev {
		if e.At < far || e.At > len(ended(line)) {
			fail("out of order")
		}
		far = e.At
		over := uint8(0)
		if len(open) > 0 {
			over = open[len(open)-1]
		}
		switch e.Op {
		case api.OpOpen:
			if !mayLie(e.Kind, over) {
				fail("a node where it may not lie")
			}
			open = append(open, e.Kind)
		case api.OpClose:
			if over == 0 || e.Kind != 0 {
				fail("nothing is open, or it becomes another one")
			}
			open = open[:len(open)-1]
		case api.OpLeaf:
			if e.To <= e.At || e.To > len(ended(line)) || !mayLie(e.Kind, over) {
				fail("a leaf that is out of bounds, or where it may not lie")
			}
			far = e.To
		default:
			fail("no such Op")
		}
		if e.Op != api.OpLeaf && e.To != 0 {
			fail("a To that means nothing")
		}
	}
	if !slices.Equal(open, openNodes(behind)) {
		fail("other nodes are open than the state says")
	}
	return behind
}

// holdBuilt holds that a builder takes the events, in which is open what the state says.
func holdBuilt(t *testing.T, s api.State, line string) {
	t.Helper()
	b := build.New(api.KindText)
	for _, kind := range openNodes(s) {
		b.Put([]api.Event{begin(kind, 0)}, 0)
	}
	ev, behind := yamlblock.Scan(s, line)
	if err := b.Put(ev, 0); err != api.OK || b.Open() != len(openNodes(behind)) {
		t.Fatalf("a builder of %v, %q: %v; %d nodes are open behind it", s, line, err, b.Open())
	}
}

// P14.5: from every state, whatever the line.
func TestAnyStateAndLine(t *testing.T) {
	seed := uint64(14)
	kinds := map[uint8]int{}
	for range 150000 {
		s, line := anyState(&seed), anyLine(&seed)
		holdEvents(t, s, line)
		holdBuilt(t, s, line)
		holdModel(t, s, line)
		ev, _ := yamlblock.Scan(s, line)
		for _, e := range ev {
			kinds[e.Kind]++
		}
	}
	for kind, word := range words {
		if kinds[kind] < 200 {
			t.Errorf("%s is told %d times: the lines try too little", word, kinds[kind])
		}
	}
}

// P14.5: lines that stand one behind the other, each from the state behind the one ahead.
func TestAnyLinesInARow(t *testing.T) {
	seed := uint64(5)
	frames, scalars := 0, 0
	for range 2000 {
		var s api.State
		for range 40 {
			line := anyLine(&seed)
			holdModel(t, s, line)
			s = holdEvents(t, s, line)
			frames = max(frames, s.Depth)
			scalars += int(s.Mode)
		}
	}
	if frames < 6 || scalars < 1000 {
		t.Errorf("at most %d frames, %d lines of block scalars: the lines try too little", frames, scalars)
	}
}

// lines are all lines of at most n of the pieces.
func lines(n int, pieces ...string) []string {
	all := []string{""}
	for from := 0; n > 0; n-- {
		to := len(all)
		for _, line := range all[from:to] {
			for _, x := range pieces {
				all = append(all, line+x)
			}
		}
		from = to
	}
	return all
}

// P14.5: all lines of few of the pieces that mean something, from states of every kind.
func TestShortLines(t *testing.T) {
	all := append(lines(4, " ", "\t", "#", "- ", "a: ", "x", "|2", "'"), lines(3, " ", "-", ":", "\r", "\n", "...", ">", "\"", "b")...)
	for _, signs := range someStates {
		s := state(signs)
		for _, line := range all {
			holdModel(t, s, line)
			holdEvents(t, s, line)
		}
	}
}

// R1: whatever state and line, a call ends and does not panic; a state that is none tells what the zero state does.
func TestAnyStateAtAll(t *testing.T) {
	seed := uint64(3)
	for range 30000 {
		s := anyState(&seed)
		n := turn(&seed, 256)
		switch turn(&seed, 9) {
		case 0:
			s.Depth = n - 100
		case 1:
			s.Stack[turn(&seed, api.MaxStack)].Col = n - 3
		case 2:
			s.Stack[turn(&seed, api.MaxStack)].Kind = uint8(n)
		case 3:
			s.Stack[turn(&seed, api.MaxStack)].Flags = uint8(n % 3)
		case 4:
			s.Mode = uint8(n % 4)
		case 5:
			s.Mark = byte(n)
		case 6:
			s.Flags = uint8(n % 4)
		case 7:
			s.Count = n - 100
		case 8:
			s.Wait = n - 100
		}
		holdModel(t, s, anyLine(&seed))
	}
	// Nothing is promised of a line of more than MaxText bytes but that it is read.
	for _, piece := range []string{" ", "\t", "- ", "a: ", "x", "#", "'", "|", "\r", "\x00"} {
		for _, ahead := range []string{"", "- ", "a: ", blanks(most + 2)} {
			line := ahead + strings.Repeat(piece, most+9) + "- x"
			for _, signs := range someStates {
				_, behind := yamlblock.Scan(state(signs), line)
				yamlblock.Scan(behind, line)
			}
		}
	}
}
