package mdblock_test

import (
	"slices"
	"strings"

	"indenture/api"
	"indenture/mdlabel"
	"indenture/mdmark"
)

const most = api.MaxText

// level is what a frame says: a quote (>) or an item, by the sign of its mark.
type level struct {
	sign         byte
	col          int
	loose, blank bool
}

// model is a state of Markdown by the words alone.
type model struct {
	levels []level
	block  byte // what is open within: 0 nothing, p a paragraph, c code, or a fence's sign
	count  int  // of a fence
	shift  int  // how far it is indented
}

// modelOf is the model of s, and whether s is a state of Markdown.
func modelOf(s api.State) (model, bool) {
	var none, m model
	if s.Depth < 0 || s.Depth > 16 || s.Wait != 0 || s.Mode > 3 {
		return none, false
	}
	for _, d := range s.Docs {
		if d.Word != "" || d.Strip || d.Raw {
			return none, false
		}
	}
	for i, f := range s.Stack {
		switch {
		case i >= s.Depth:
			if f.Kind != 0 || f.Mark != 0 || f.Flags != 0 || f.Col != 0 {
				return none, false
			}
		case f.Kind == api.MdQuote:
			if f.Mark != 0 || f.Flags != 0 || f.Col != 0 {
				return none, false
			}
			m.levels = append(m.levels, level{sign: '>'})
		case f.Kind == api.MdItem:
			if !slices.Contains([]byte{'-', '+', '*', '.', ')'}, f.Mark) || f.Flags > 3 || f.Col < 2 || f.Col > 17 {
				return none, false
			}
			m.levels = append(m.levels, level{f.Mark, f.Col, f.Flags == 1 || f.Flags == 3, f.Flags >= 2})
		default:
			return none, false
		}
	}
	if s.Mode == 2 {
		m.block, m.count, m.shift = s.Mark, s.Count, int(s.Flags)
		return m, (s.Mark == 126 || s.Mark == 96) && s.Count >= 3 && s.Count <= 1<<20 && s.Flags <= 3
	}
	m.block = "\x00p\x00c"[s.Mode]
	return m, s.Mark == 0 && s.Count == 0 && s.Flags == 0
}

// state is the state whose model m is.
func (m model) state() api.State {
	s := api.State{Depth: len(m.levels)}
	for i, l := range m.levels {
		if l.sign == '>' {
			s.Stack[i].Kind = api.MdQuote
			continue
		}
		s.Stack[i] = api.Frame{Kind: api.MdItem, Mark: l.sign, Col: l.col}
		if l.loose {
			s.Stack[i].Flags++
		}
		if l.blank {
			s.Stack[i].Flags += 2
		}
	}
	switch m.block {
	case 0:
	case 'p':
		s.Mode = 1
	case 'c':
		s.Mode = 3
	default:
		s.Mode, s.Mark, s.Count, s.Flags = 2, m.block, m.count, uint8(m.shift)
	}
	return s
}

// came says of all levels that are items whether a blank line came to them.
func (m *model) came(blank bool) {
	for i := range m.levels {
		m.levels[i].blank = blank && m.levels[i].sign != '>'
	}
}

// view is a line that is read, each of whose places has a column of its own, however one came there.
type view struct {
	own      string
	cols     []int
	at, base int
}

// isBlank tells whether c is a blank.
func isBlank(c byte) bool { return c == 32 || c == 9 }

// ended is what a line has ahead of its end.
func ended(line string) string {
	own, _, ends := strings.Cut(line, "\n")
	if ends && strings.HasSuffix(own, "\r") {
		own = own[:len(own)-1]
	}
	return own
}

// viewOf is the view of a line at its beginning.
func viewOf(line string) *view {
	v := &view{own: ended(line), cols: []int{0}}
	for i := range len(v.own) {
		next := v.cols[i] + 1
		for v.own[i] == 9 && next%4 > 0 {
			next++
		}
		v.cols = append(v.cols, next)
	}
	return v
}

// over is the first place from the view's place on at which no blank stands.
func (v *view) over() int {
	at := v.at
	for at < len(v.own) && isBlank(v.own[at]) {
		at++
	}
	return at
}

// wide is how wide the indentation is.
func (v *view) wide() int { return v.cols[v.over()] - v.base }

// empty tells whether nothing stands there.
func (v *view) empty() bool { return v.over() == len(v.own) }

// rest is what stands there.
func (v *view) rest() string { return v.own[v.over():] }

// upTo is where one comes to over blanks whose columns are at most col.
func (v *view) upTo(col int) int {
	at := v.at
	for at < v.over() && v.cols[at+1] <= col {
		at++
	}
	return at
}

// take takes k columns.
func (v *view) take(k int) {
	v.base += k
	v.at = v.upTo(v.base)
}

// isQuote tells whether a quote's mark stands there.
func (v *view) isQuote() bool { return v.wide() < 4 && strings.HasPrefix(v.rest(), ">") }

// quote goes into the quote.
func (v *view) quote() {
	v.at = v.over() + 1
	v.base = v.cols[v.at]
	if v.at < len(v.own) && isBlank(v.own[v.at]) {
		v.take(1)
	}
}

// begins tells whether the line begins something, m frames of which go on.
func (v *view) begins(m int) bool {
	at := v.over()
	_, a := mdmark.Head(v.own, at)
	_, b := mdmark.Fence(v.own, at)
	_, c := mdmark.Rule(v.own, at)
	i, d := mdmark.Item(v.own, at)
	word := d && i.Last > i.To && (strings.IndexByte("+-*", i.Char) >= 0 || i.Count == 1)
	return v.wide() <= 3 && (a || b || c || m < 16 && (v.isQuote() || word))
}

// scan is what Scan tells, by the words alone.
func scan(s api.State, line string) ([]api.Event, api.State) {
	m, is := modelOf(s)
	if !is {
		m = model{}
	}
	v := viewOf(line)
	var marks []api.Event
	kept := 0
	for ; kept < len(m.levels); kept++ {
		l := m.levels[kept]
		if l.sign == '>' && v.isQuote() {
			marks = append(marks, leaf(api.MdMark, v.over(), v.over()+1))
			v.quote()
		} else if l.sign != '>' && !v.empty() && v.wide() >= l.col {
			v.take(l.col)
		} else if l.sign == '>' || !v.empty() {
			break
		}
	}
	if ev, is := m.goOn(v, kept == len(m.levels), kept); is {
		return append(marks, ev...), m.state()
	}
	ev, going, flag := m.shut(v, kept)
	ev = append(ev, marks...)
	if n := len(m.levels); v.empty() {
		m.came(true)
		return ev, m.state()
	} else if n > 0 && !going && m.levels[n-1].blank {
		m.levels[n-1].loose = true
	}
	m.came(false)
	for !v.empty() {
		more, ends := m.opens(v, going, flag)
		ev = append(ev, more...)
		if going = false; ends {
			break
		}
	}
	return ev, m.state()
}

// goOn is what is told of a line that goes on with the block that is open, and whether it does.
func (m *model) goOn(v *view, all bool, kept int) ([]api.Event, bool) {
	end, at, little := len(v.own), v.over(), !v.empty() && v.wide() <= 3
	if all && (m.block == '~' || m.block == '`') {
		f, is := mdmark.Fence(v.own, at)
		if from := v.upTo(v.base + m.shift); !little || !is || f.Char != m.block || f.Count < m.count || f.To < f.Last {
			if from == end {
				return nil, true
			}
			return []api.Event{leaf(api.MdRaw, from, end)}, true
		}
		m.block, m.count, m.shift = 0, 0, 0
		return []api.Event{leaf(api.MdMark, at, f.Last), shut(f.Last)}, true
	}
	if all && m.block == 'c' && v.empty() {
		m.came(true)
		return nil, true
	}
	if all && m.block == 'c' && v.wide() >= 4 {
		m.came(false)
		return []api.Event{leaf(api.MdRaw, v.upTo(v.base+4), end)}, true
	}
	if m.block == 'p' && !v.empty() {
		if u, is := mdmark.Under(v.own, at); all && little && is {
			m.came(false)
			m.block = 0
			return []api.Event{leaf(api.MdMark, at, u.Last), {Op: api.OpClose, Kind: api.MdUnder, At: u.Last}}, true
		}
		if !v.begins(kept) {
			m.came(false)
			return []api.Event{text(at, end)}, true
		}
	}
	return nil, false
}

// shut is what closes ahead of all else; whether a list goes on, and whether that is loose.
func (m *model) shut(v *view, kept int) ([]api.Event, bool, bool) {
	var ev []api.Event
	if m.block != 0 {
		ev = append(ev, shut(0))
	}
	m.block, m.count, m.shift = 0, 0, 0
	cut := m.levels[kept:]
	m.levels = slices.Clone(m.levels[:kept])
	i, isItem := mdmark.Item(v.own, v.over())
	_, isRule := mdmark.Rule(v.own, v.over())
	going := len(cut) > 0 && !v.empty() && v.wide() <= 3 && isItem && !isRule && i.Char == cut[0].sign
	for k := len(cut) - 1; k >= 0; k-- {
		ev = append(ev, shut(0))
		if cut[k].sign != '>' && (k > 0 || !going) {
			list := shut(0)
			if cut[k].loose {
				list.Kind = api.MdLoose
			}
			ev = append(ev, list)
		}
	}
	return ev, going, going && (cut[0].loose || cut[0].blank)
}

// opens is what the next thing tells that stands there, and whether that is all.
func (m *model) opens(v *view, going, flag bool) ([]api.Event, bool) {
	at, end, room := v.over(), len(v.own), len(m.levels) < 16
	if v.wide() >= 4 {
		from := v.upTo(v.base + 4)
		m.block = 'c'
		return []api.Event{begin(api.MdCode, from), leaf(api.MdRaw, from, end)}, true
	}
	if room && v.isQuote() {
		m.levels = append(m.levels, level{sign: '>'})
		v.quote()
		return []api.Event{begin(api.MdQuote, at), leaf(api.MdMark, at, at+1)}, false
	}
	if h, is := mdmark.Head(v.own, at); is {
		ev := []api.Event{begin(api.MdHead, at), leaf(api.MdMark, at, h.To)}
		if h.End > h.From {
			ev = append(ev, text(h.From, h.End))
		}
		behind := max(h.End, h.To)
		for behind < h.Last && isBlank(v.own[behind]) {
			behind++
		}
		if behind < h.Last {
			ev = append(ev, leaf(api.MdMark, behind, h.Last))
		}
		return append(ev, shut(h.Last)), true
	}
	if f, is := mdmark.Fence(v.own, at); is {
		m.block, m.count, m.shift = f.Char, f.Count, v.wide()
		return []api.Event{begin(api.MdFence, at), leaf(api.MdMark, at, f.Last)}, true
	}
	if r, is := mdmark.Rule(v.own, at); is {
		return []api.Event{leaf(api.MdRule, at, r.Last)}, true
	}
	if i, is := mdmark.Item(v.own, at); is && room {
		ev := []api.Event{begin(api.MdItem, at), leaf(api.MdMark, at, i.To)}
		if !going {
			ev = append([]api.Event{begin(api.MdTight, at)}, ev...)
		}
		width := v.wide() + i.To - at
		v.at = i.To
		if blanks := v.cols[v.over()] - v.cols[i.To]; v.empty() || blanks > 4 {
			width++
		} else {
			width += blanks
		}
		v.take(width)
		m.levels = append(m.levels, level{i.Char, width, going && flag, false})
		return ev, false
	}
	if _, to, is := mdlabel.Def(v.own, at); is {
		return []api.Event{leaf(api.MdDef, at, to)}, true
	}
	m.block = 'p'
	return []api.Event{begin(api.MdPara, at), text(at, end)}, true
}

// finish is what End tells, by the words alone.
func finish(s api.State) []api.Event {
	m, is := modelOf(s)
	if !is {
		return nil
	}
	ev, _, _ := m.shut(viewOf(""), 0)
	return ev
}

// begin is the event that a node of a kind begins.
func begin(kind uint8, at int) api.Event { return api.Event{Op: api.OpOpen, Kind: kind, At: at} }

// shut is the event that the node which was opened last ends.
func shut(at int) api.Event { return api.Event{Op: api.OpClose, At: at} }

// leaf is the event of a leaf.
func leaf(kind uint8, from, to int) api.Event {
	return api.Event{Op: api.OpLeaf, Kind: kind, At: from, To: to}
}

// text is the event of text that may have spans.
func text(from, to int) api.Event { return api.Event{Op: api.OpText, At: from, To: to} }
