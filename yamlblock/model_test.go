package yamlblock_test

import (
	"strings"

	"indenture/api"
	"indenture/yamlline"
)

const most = api.MaxText

// level is what a frame says: a mapping (%) or a sequence (-), at a column.
type level struct {
	sign byte
	col  int
}

// model is a state of YAML by the words alone.
type model struct {
	levels []level
	waits  bool // what belongs to the last entry, or to the document, may still come
	scalar bool // within a block scalar
	count  int
}

// signOf is the sign of a frame's kind; 0, if it is none.
func signOf(kind uint8) byte {
	switch kind {
	case api.YamlMap:
		return '%'
	case api.YamlSeq:
		return '-'
	}
	return 0
}

// modelOf is the model of s, and whether s is a state of YAML.
func modelOf(s api.State) (model, bool) {
	none := model{waits: true}
	if s.Depth < 0 || s.Depth > 16 || s.Mark != 0 || s.Wait != 0 || s.Mode > 1 || s.Flags > 1 || s.Count < 0 || s.Count > 1<<20+9 || s.Mode == 0 && s.Count > 0 {
		return none, false
	}
	for _, d := range s.Docs {
		if d.Word != "" || d.Strip || d.Raw {
			return none, false
		}
	}
	m := model{waits: s.Flags == 0, scalar: s.Mode == 1, count: s.Count}
	for i, f := range s.Stack {
		if i >= s.Depth {
			if f.Kind != 0 || f.Mark != 0 || f.Flags != 0 || f.Col != 0 {
				return none, false
			}
			continue
		}
		if signOf(f.Kind) == 0 || f.Mark != 0 || f.Flags > 1 || f.Flags == 1 && i < s.Depth-1 || f.Col < 0 || f.Col > 1<<20 {
			return none, false
		}
		if i > 0 {
			under := s.Stack[i-1]
			if f.Col < under.Col || f.Col == under.Col && (f.Kind != api.YamlSeq || under.Kind != api.YamlMap) {
				return none, false
			}
		}
		m.levels = append(m.levels, level{signOf(f.Kind), f.Col})
		m.waits = f.Flags == 1
	}
	if s.Depth > 0 && s.Flags != 0 || m.scalar && m.waits {
		return none, false
	}
	return m, true
}

// state is the state whose model m is.
func (m model) state() api.State {
	s := api.State{Depth: len(m.levels)}
	for i, l := range m.levels {
		s.Stack[i].Col = l.col
		s.Stack[i].Kind = api.YamlMap
		if l.sign == '-' {
			s.Stack[i].Kind = api.YamlSeq
		}
	}
	switch {
	case len(m.levels) > 0 && m.waits:
		s.Stack[len(m.levels)-1].Flags = 1
	case len(m.levels) == 0 && !m.waits:
		s.Flags = 1
	}
	if m.scalar {
		s.Mode, s.Count = 1, m.count
	}
	return s
}

// open is the column that is open.
func (m *model) open() int {
	if len(m.levels) == 0 {
		return -1
	}
	return m.levels[len(m.levels)-1].col
}

// cut drops levels until n are left.
func (m *model) cut(n int) []api.Event {
	var ev []api.Event
	for len(m.levels) > n {
		ev = append(ev, shut(0), shut(0))
		m.levels, m.waits = m.levels[:len(m.levels)-1], false
	}
	return ev
}

// ended is what a line has ahead of its end.
func ended(line string) string {
	own, _, ends := strings.Cut(line, "\n")
	if ends && strings.HasSuffix(own, "\r") {
		own = own[:len(own)-1]
	}
	return own
}

// lastPlace is behind the last byte of a line, which is cut at its end, that is no blank.
func lastPlace(line string) int { return len(strings.TrimRight(line, "\t ")) }

// past is the first place of a line, which is cut at its end, from at on at which no blank stands.
func past(line string, at int) int { return len(line) - len(strings.TrimLeft(line[at:], "\t ")) }

// scan is what Scan tells, by the words alone.
func scan(s api.State, line string) ([]api.Event, api.State) {
	m, _ := modelOf(s)
	line = ended(line)
	at := len(line) - len(strings.TrimLeft(line, " "))
	if strings.Trim(line, "\t ") == "" {
		return nil, m.state()
	}
	var ev []api.Event
	if m.scalar {
		switch {
		case m.count == 0 && at > m.open():
			m.count = at
			return []api.Event{leaf(api.YamlLine, at, len(line))}, m.state()
		case m.count > 0 && at >= m.count:
			return []api.Event{leaf(api.YamlLine, m.count, len(line))}, m.state()
		}
		ev = append(ev, shut(0))
		m.scalar, m.count = false, 0
	}
	switch p := yamlline.Read(line, at); {
	case line[at] == '\t':
		ev = append(ev, leaf(api.KindError, at, lastPlace(line)))
	case line[at] == '#':
		ev = append(ev, leaf(api.YamlComment, at, len(line)))
	case p.Kind == api.YamlMark:
		ev = append(append(ev, m.cut(0)...), leaf(api.YamlMark, 0, 3))
		m.waits = true
		if k := past(line, 3); k < len(line) && line[k] == '#' {
			ev = append(ev, leaf(api.YamlComment, k, len(line)))
		} else if k < len(line) {
			ev = append(ev, leaf(api.KindError, k, lastPlace(line)))
		}
	default:
		ev = append(ev, m.end(p.Kind == api.YamlDash, at)...)
		ev = append(ev, m.read(line, at, true, true)...)
	}
	return ev, m.state()
}

// end drops what a line of a column ends that has neither a comment alone nor a mark.
func (m *model) end(dash bool, at int) []api.Event {
	n := 0
	for n < len(m.levels) && m.levels[n].col <= at {
		n++
	}
	if !dash && n > 1 && m.levels[n-1] == (level{'-', at}) && m.levels[n-2].col == at {
		n--
	}
	return m.cut(n)
}

// read is what is told of a line from at on: a value, if no entries may stand there.
func (m *model) read(line string, at int, first, entries bool) []api.Event {
	p := yamlline.Read(line, at)
	wrong := []api.Event{leaf(api.KindError, at, lastPlace(line))}
	own := []api.Event{leaf(p.Kind, at, p.To)}
	room, deeper := m.waits && len(m.levels) < 16, at > m.open()
	switch p.Kind {
	case api.YamlComment:
		return own
	case api.YamlDash, api.YamlKey:
		sign, kind, entry, on := byte('%'), api.YamlMap, api.YamlPair, p.Colon+1
		if p.Kind == api.YamlDash {
			sign, kind, entry, on = '-', api.YamlSeq, api.YamlItem, p.To
		}
		var last level
		if n := len(m.levels); n > 0 {
			last = m.levels[n-1]
		}
		beside := sign == '-' && first && last == level{'%', at}
		var ev []api.Event
		switch {
		case !entries:
			return wrong
		case first && last == level{sign, at}:
			ev = append(ev, shut(at), begin(entry, at))
		case room && (deeper || beside):
			ev = append(ev, begin(kind, at), begin(entry, at))
			m.levels = append(m.levels, level{sign, at})
		default:
			return wrong
		}
		m.waits = true
		ev = append(ev, own...)
		if k := past(line, on); k < len(line) {
			ev = append(ev, m.read(line, k, false, sign == '-')...)
		}
		return ev
	case api.YamlHead, api.YamlPlain, api.YamlQuoted:
		if !m.waits && (p.Kind != api.YamlPlain || !first || !deeper) {
			return wrong
		}
		if k := past(line, p.To); k < len(line) {
			own = append(own, leaf(api.YamlComment, k, len(line)))
		}
		if p.Kind == api.YamlHead {
			m.scalar = true
			own = append(own, begin(api.YamlBlock, len(line)))
			if p.Count > 0 {
				m.count = p.Count + max(0, m.open())
			}
		}
		m.waits = false
		return own
	}
	return wrong
}

// begin is the event that a node of a kind begins.
func begin(kind uint8, at int) api.Event { return api.Event{Op: api.OpOpen, Kind: kind, At: at} }

// shut is the event that the node which was opened last ends.
func shut(at int) api.Event { return api.Event{Op: api.OpClose, At: at} }

// leaf is the event of a leaf.
func leaf(kind uint8, from, to int) api.Event {
	return api.Event{Op: api.OpLeaf, Kind: kind, At: from, To: to}
}
