package mdblock

import (
	"strings"

	"indenture/api"
	"indenture/mdlabel"
	"indenture/mdmark"
)

// What follows takes a line that goes on with the block that is open.

// fenced takes a line of code between fences, or the fence that ends it.
func (r *reader) fenced() next {
	if r.Mode != inFence || r.kept < r.Depth {
		return other
	}
	if m, is := mdmark.Fence(r.line, r.stand); is && r.wide <= mostIndent && m.Char == r.Mark && m.Count >= r.Count && m.To == m.Last {
		r.leaf(api.MdMark, r.stand, m.Last)
		r.leave(0, m.Last)
		return done
	}
	if from := r.behind(int(r.Flags)); from < len(r.line) {
		r.leaf(api.MdRaw, from, len(r.line))
	}
	return done
}

// indented takes a line of code that is indented.
func (r *reader) indented() next {
	switch {
	case r.Mode != inCode || r.kept < r.Depth:
		return other
	case !r.stands():
		r.parted()
	case r.wide >= codeIndent:
		r.leaf(api.MdRaw, r.behind(codeIndent), len(r.line))
		r.joined()
	default:
		return other
	}
	return done
}

// running takes a line that goes on with a paragraph, be it without the marks of its quotes and items, or the underline that makes it a heading.
func (r *reader) running() next {
	if r.Mode != inPara || !r.stands() {
		return other
	}
	m, is := mdmark.Under(r.line, r.stand)
	switch {
	case is && r.kept == r.Depth && r.wide <= mostIndent:
		r.leaf(api.MdMark, r.stand, m.Last)
		r.leave(api.MdUnder, m.Last)
	case r.begins():
		return other
	default:
		r.text(r.stand, len(r.line))
	}
	r.joined()
	return done
}

// begins tells whether something stands there that ends a paragraph.
func (r *reader) begins() bool {
	if r.wide > mostIndent {
		return false
	}
	_, head := mdmark.Head(r.line, r.stand)
	_, fence := mdmark.Fence(r.line, r.stand)
	_, rule := mdmark.Rule(r.line, r.stand)
	return head || fence || rule || r.kept < api.MaxStack && (r.isQuoted() || r.isItem())
}

// isItem tells whether an item stands there that may end a paragraph: without words, or with a number that counts on, a sign may be its text.
func (r *reader) isItem() bool {
	m, is := mdmark.Item(r.line, r.stand)
	return is && m.Last > m.To && (m.Count == 1 || strings.IndexByte(".)", m.Char) < 0)
}

// What follows takes what opens, if it stands there.

// code takes code that is indented.
func (r *reader) code() next {
	if r.wide < codeIndent {
		return other
	}
	from := r.behind(codeIndent)
	r.open(api.MdCode, from)
	r.leaf(api.MdRaw, from, len(r.line))
	r.Mode = inCode
	return done
}

// quoted takes the mark of a quote.
func (r *reader) quoted() next {
	if r.Depth == api.MaxStack || !r.isQuoted() {
		return other
	}
	r.open(api.MdQuote, r.stand)
	r.leaf(api.MdMark, r.stand, r.stand+1)
	r.push(api.Frame{Kind: api.MdQuote})
	r.quote()
	return on
}

// head takes a heading of one line.
func (r *reader) head() next {
	m, is := mdmark.Head(r.line, r.stand)
	if !is {
		return other
	}
	r.open(api.MdHead, r.stand)
	r.leaf(api.MdMark, r.stand, m.To)
	if m.From < m.End {
		r.text(m.From, m.End)
	}
	if row := mdlabel.Skip(r.line, m.End, m.Last); row < m.Last {
		r.leaf(api.MdMark, row, m.Last)
	}
	r.close(0, m.Last)
	return done
}

// fence takes the fence that begins code.
func (r *reader) fence() next {
	m, is := mdmark.Fence(r.line, r.stand)
	if !is {
		return other
	}
	r.open(api.MdFence, r.stand)
	r.leaf(api.MdMark, r.stand, m.Last)
	r.Mode, r.Mark, r.Count, r.Flags = inFence, m.Char, m.Count, uint8(r.wide)
	return done
}

// rule takes a break.
func (r *reader) rule() next {
	m, is := mdmark.Rule(r.line, r.stand)
	if !is {
		return other
	}
	r.leaf(api.MdRule, r.stand, m.Last)
	return done
}

// listed takes an item's mark, with which a list begins or goes on.
func (r *reader) listed() next {
	m, is := mdmark.Item(r.line, r.stand)
	if !is || r.Depth == api.MaxStack {
		return other
	}
	if !r.going {
		r.open(api.MdTight, r.stand)
	}
	r.open(api.MdItem, r.stand)
	r.leaf(api.MdMark, r.stand, m.To)
	f := api.Frame{Kind: api.MdItem, Mark: m.Char, Flags: r.flags, Col: r.item(m.To)}
	r.push(f)
	r.going, r.flags = false, 0
	return on
}

// def takes the definition of a label.
func (r *reader) def() next {
	_, to, is := mdlabel.Def(r.line, r.stand)
	if !is {
		return other
	}
	r.leaf(api.MdDef, r.stand, to)
	return done
}

// para takes the first line of a paragraph, which is all else.
func (r *reader) para() next {
	r.open(api.MdPara, r.stand)
	r.text(r.stand, len(r.line))
	r.Mode = inPara
	return done
}
