package shdoc

import (
	"strings"

	"indenture/api"
	"indenture/shword"
)

// reader reads a line, from the state that it embeds to the one behind it.
type reader struct {
	api.State
	line string
}

// putter puts an event.
type putter func(op, kind uint8, at, to int)

// modes are what is done with a line, by the Mode at its beginning.
func modes() map[uint8]func(*reader, putter) {
	return map[uint8]func(*reader, putter){
		between: (*reader).command,
		onward:  (*reader).command,
		inside:  (*reader).document,
	}
}

// command reads a line of a command, which begins in it or goes on.
func (r *reader) command(put putter) {
	pieces, mark := shword.Read(r.line, 0, r.Mark)
	open := r.Mode == onward
	var last shword.Piece
	for i, p := range pieces {
		if !open && p.Kind != api.ShComment {
			put(api.OpOpen, api.ShLine, p.From, 0)
			open = true
		}
		put(api.OpLeaf, r.take(pieces[i:]), p.From, p.To)
		last = p
	}
	if last.Kind == api.ShJoin || mark != 0 {
		r.Mode, r.Mark = onward, mark
		return
	}
	if open {
		put(api.OpClose, 0, last.To, 0)
	}
	r.next(put)
}

// take takes the first one of pieces, and the document that it asks for, which waits from then on: the kind by which it is told.
func (r *reader) take(pieces []shword.Piece) uint8 {
	first := pieces[0]
	sign := r.line[first.From:first.To]
	if first.Kind != api.ShOp || sign != "<<" && sign != "<<-" {
		return first.Kind
	}
	if len(pieces) == 1 || !isDelimiter(pieces[1]) || r.Wait == api.MaxDocs {
		return api.KindError
	}
	r.Docs[r.Wait] = api.Doc{Word: pieces[1].Text, Strip: sign == "<<-", Raw: pieces[1].Raw}
	r.Wait++
	return first.Kind
}

// isDelimiter tells whether p may be what ends a document; none but a word is whole.
func isDelimiter(p shword.Piece) bool {
	return p.Whole && len(p.Text) <= api.MaxWord && !strings.Contains(p.Text, "\n")
}

// document reads a line of the document that waits first, or the one that ends it.
func (r *reader) document(put putter) {
	own := strings.TrimSuffix(r.line, "\n")
	from := 0
	if r.Docs[0].Strip {
		from = len(own) - len(strings.TrimLeft(own, "\t"))
	}
	if own[from:] != r.Docs[0].Word {
		put(api.OpLeaf, api.ShText, 0, len(r.line))
		return
	}
	put(api.OpLeaf, api.ShDelim, from, len(own))
	put(api.OpClose, 0, len(r.line), 0)
	var rest [api.MaxDocs]api.Doc
	copy(rest[:], r.Docs[1:])
	r.Docs = rest
	r.Wait--
	r.next(put)
}

// next comes behind a command, or a document: the document that waits first opens, if one does.
func (r *reader) next(put putter) {
	mode := between
	if r.Wait > 0 {
		mode = inside
		put(api.OpOpen, api.ShDoc, len(r.line), 0)
	}
	r.State = api.State{Mode: mode, Docs: r.Docs, Wait: r.Wait}
}
