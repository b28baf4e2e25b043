package pylayout_test

import (
	"regexp"
	"slices"
	"strings"

	"indenture/api"
	"indenture/pytoken"
)

const most = api.MaxText

// model is a state of Python by the words alone.
type model struct {
	cols         []int // of the frames
	within, flag bool  // flag: behind a head, or within a line that ended in a colon last
	mark         byte
	depth        int
}

// modelOf is the model of s, and whether s is a state of Python.
func modelOf(s api.State) (model, bool) {
	m := model{within: s.Mode == 1, flag: s.Flags != 0, mark: s.Mark, depth: s.Count}
	if s.Depth < 0 || s.Depth > 16 {
		return model{}, false
	}
	for i, f := range s.Stack {
		if i >= s.Depth {
			if f.Kind != 0 || f.Mark != 0 || f.Flags != 0 || f.Col != 0 {
				return model{}, false
			}
			continue
		}
		if f.Kind != 10 || f.Mark != 0 || f.Flags != 0 || f.Col < 1 || f.Col > 8<<20 || i > 0 && f.Col <= s.Stack[i-1].Col {
			return model{}, false
		}
		m.cols = append(m.cols, f.Col)
	}
	for _, d := range s.Docs {
		if d.Word != "" || d.Strip || d.Raw {
			return model{}, false
		}
	}
	is := s.Wait == 0
	switch s.Mode {
	case 0:
		is = is && s.Mark == 0 && s.Count == 0 && s.Flags < 2
	case 1:
		is = is && s.Mark < 5 && s.Count >= 0 && s.Count <= 1<<20 && (s.Flags == 0 || s.Flags == 2)
	default:
		is = false
	}
	if !is {
		return model{}, false
	}
	return m, true
}

// state is the state whose model m is.
func (m model) state() api.State {
	s := api.State{Depth: len(m.cols), Mark: m.mark, Count: m.depth}
	for i, col := range m.cols {
		s.Stack[i] = api.Frame{Kind: api.PyBlock, Col: col}
	}
	if m.flag {
		s.Flags = 1
	}
	if m.within {
		s.Mode, s.Flags = 1, 2*s.Flags
	}
	return s
}

// open is the column that is open.
func (m model) open() int {
	if len(m.cols) == 0 {
		return 0
	}
	return m.cols[len(m.cols)-1]
}

// lineEnd is a line's end, and what is behind it.
var lineEnd = regexp.MustCompile(`\r?\n(?s:.*)$`)

// ended is what a line has ahead of its end.
func ended(line string) string { return lineEnd.ReplaceAllString(line, "") }

// width is the column to which blanks and tabs go from the column 0.
func width(blanks string) int {
	col := 0
	for _, c := range blanks {
		if c == '\t' {
			col += 8 - col%8
		} else {
			col++
		}
	}
	return col
}

// scan is what Scan tells, by the words alone.
func scan(s api.State, line string) ([]api.Event, api.State) {
	m, _ := modelOf(s)
	var ev []api.Event
	line = ended(line)
	at := 0
	if !m.within {
		own := strings.TrimLeft(line, " \t")
		at = len(line) - len(own)
		if own == "" {
			return nil, m.state()
		}
		if own[0] == '#' {
			return []api.Event{leaf(api.PyComment, at, len(line))}, m.state()
		}
		ev = m.layout(at, width(line[:at]))
		m.mark, m.depth, m.flag = 0, 0, false
	}
	out := pytoken.Scan(line, at, m.mark, m.depth)
	ev = append(ev, out.Events...)
	if out.Some {
		m.flag = out.Colon
	}
	m.mark, m.depth = out.Mark, out.Depth
	m.within = out.Join || out.Mark > 0 || out.Depth > 0
	switch {
	case m.within:
	case m.flag:
		ev = append(ev, shut(api.PyHead, len(line)))
	default:
		ev = append(ev, shut(api.PySimple, len(line)))
	}
	return ev, m.state()
}

// layout is what a line's indentation tells, which goes up to at and to the column col.
func (m *model) layout(at, col int) []api.Event {
	var ev []api.Event
	wrong := col > m.open() && (!m.flag || len(m.cols) == 16)
	if col > m.open() && !wrong {
		ev = append(ev, begin(api.PyBlock, 0))
		m.cols = append(m.cols, col)
	} else if !wrong {
		left, _ := slices.BinarySearch(m.cols, col+1)
		for range m.cols[left:] {
			ev = append(ev, shut(0, 0))
		}
		m.cols = m.cols[:left]
		wrong = m.open() != col || m.flag
	}
	if wrong {
		ev = append(ev, leaf(api.KindError, 0, at))
	}
	return append(ev, begin(api.PySimple, at))
}

// begin is the event that a node of a kind begins.
func begin(kind uint8, at int) api.Event { return api.Event{Op: api.OpOpen, Kind: kind, At: at} }

// shut is the event that the node which was opened last ends.
func shut(kind uint8, at int) api.Event { return api.Event{Op: api.OpClose, Kind: kind, At: at} }

// leaf is the event of a leaf.
func leaf(kind uint8, from, to int) api.Event {
	return api.Event{Op: api.OpLeaf, Kind: kind, At: from, To: to}
}
