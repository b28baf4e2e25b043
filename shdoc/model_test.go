package shdoc_test

import (
	"regexp"
	"strings"
	"testing"

	"indenture/api"
	"indenture/shdoc"
	"indenture/shword"
)

// model is a state of the shell's, told in another way: where a line stands, and the documents that wait as a list.
type model struct {
	mode uint8
	mark byte
	docs []api.Doc
}

// asks is what an operator looks like behind which a document's word may stand.
var asks = regexp.MustCompile(`^<<-?$`)

// tabs are those at a line's beginning.
var tabs = regexp.MustCompile(`^\t*`)

// modelOf is the model of a state, and whether it is one of the shell's, by the words alone.
func modelOf(s api.State) (model, bool) {
	for _, f := range s.Stack {
		if f.Kind != 0 || f.Mark != 0 || f.Flags != 0 || f.Col != 0 {
			return model{}, false
		}
	}
	if s.Depth != 0 || s.Flags != 0 || s.Count != 0 || s.Wait < 0 || s.Wait > api.MaxDocs || s.Mode > 2 {
		return model{}, false
	}
	m := model{mode: s.Mode, mark: s.Mark}
	for i, d := range s.Docs {
		waits := i < s.Wait
		if len(d.Word) > api.MaxWord || !waits && (d.Word != "" || d.Strip || d.Raw) {
			return model{}, false
		}
		if waits {
			m.docs = append(m.docs, d)
		}
	}
	marks := []string{"\x00", "\x00'\"", "\x00"}[s.Mode]
	least := []int{0, 0, 1}[s.Mode]
	if strings.IndexByte(marks, s.Mark) < 0 || len(m.docs) < least || s.Mode == 0 && len(m.docs) > 0 {
		return model{}, false
	}
	return m, true
}

// state is the state of a model.
func (m model) state() api.State {
	s := api.State{Mode: m.mode, Mark: m.mark, Wait: len(m.docs)}
	for i, d := range m.docs {
		s.Docs[i] = d
	}
	return s
}

// scan is what a line tells, by the words alone.
func (m *model) scan(line string) []api.Event {
	switch {
	case line == "":
		return nil
	case m.mode == 2:
		return m.document(line)
	}
	var l []api.Event
	pieces, mark := shword.Read(line, 0, m.mark)
	open, end, goes := m.mode == 1, 0, mark != 0
	for i, p := range pieces {
		if p.Kind != api.ShComment && !open {
			l, open = append(l, api.Event{Op: api.OpOpen, Kind: api.ShLine, At: p.From}), true
		}
		kind := p.Kind
		if sign := line[p.From:p.To]; p.Kind == api.ShOp && asks.MatchString(sign) {
			kind = api.KindError
			if i+1 < len(pieces) && pieces[i+1].Kind == api.ShWord && m.mayWait(pieces[i+1]) {
				kind = api.ShOp
				m.docs = append(m.docs, api.Doc{Word: pieces[i+1].Text, Strip: sign == "<<-", Raw: pieces[i+1].Raw})
			}
		}
		l = append(l, api.Event{Op: api.OpLeaf, Kind: kind, At: p.From, To: p.To})
		end, goes = p.To, mark != 0 || p.Kind == api.ShJoin
	}
	if goes {
		m.mode, m.mark = 1, mark
		return l
	}
	if open {
		l = append(l, api.Event{Op: api.OpClose, At: end})
	}
	return append(l, m.behind(line)...)
}

// mayWait tells whether a document that ends with the word may wait, too.
func (m *model) mayWait(p shword.Piece) bool {
	return p.Whole && len(p.Text) <= 64 && !strings.Contains(p.Text, "\n") && len(m.docs) < 4
}

// document is what a line tells within a document.
func (m *model) document(line string) []api.Event {
	bytes, from := strings.TrimSuffix(line, "\n"), 0
	if m.docs[0].Strip {
		from = len(tabs.FindString(bytes))
	}
	if bytes[from:] != m.docs[0].Word {
		return []api.Event{{Op: api.OpLeaf, Kind: api.ShText, To: len(line)}}
	}
	m.docs = m.docs[1:]
	return append([]api.Event{{Op: api.OpLeaf, Kind: api.ShDelim, At: from, To: len(bytes)}, {Op: api.OpClose, At: len(line)}}, m.behind(line)...)
}

// behind is what is told where a line, or a document, ends.
func (m *model) behind(line string) []api.Event {
	m.mode, m.mark = 0, 0
	if len(m.docs) == 0 {
		return nil
	}
	m.mode = 2
	return []api.Event{{Op: api.OpOpen, Kind: api.ShDoc, At: len(line)}}
}

// holdModel holds what a line tells against what it does by the words alone.
func holdModel(t *testing.T, s api.State, line string) {
	t.Helper()
	m, is := modelOf(s)
	if shdoc.Own(s) != is {
		t.Fatalf("Own(%v) is %v", s, !is)
	}
	want := told(m.scan(line))
	if ev, now := shdoc.Scan(s, line); told(ev) != want || now != m.state() {
		t.Fatalf("Scan(%v, %q) tells\n%s, %v, not\n%s, %v", s, line, told(ev), now, want, m.state())
	}
}
