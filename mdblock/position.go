package mdblock

import (
	"strings"

	"indenture/tab"
)

// tabSize is how many columns lie between those to which tabs go.
const tabSize = 4

// How wide indentation may be.
const (
	mostIndent = 3 // of what is no code
	codeIndent = 4 // taken off code that is indented
	mostGap    = 4 // between an item's mark and what stands behind it
)

// position is a place of a line, from which it is read on.
type position struct {
	line  string // what it has ahead of its end
	at    int
	col   int // the column of at; less than base, if a tab reaches over that
	base  int // the column from which indentation counts
	stand int // where the indentation ends
	wide  int // how wide it is
}

// begin is the position at the beginning of line.
func begin(line string) position {
	p := position{line: line}
	p.look()
	return p
}

// look finds out where the indentation ends.
func (p *position) look() {
	at, col := tab.Indent(p.line, p.at, p.col, tabSize)
	p.stand, p.wide = at, col-p.base
}

// stands tells whether something stands behind the indentation.
func (p *position) stands() bool {
	return p.stand < len(p.line)
}

// isQuoted tells whether the mark of a quote stands there.
func (p *position) isQuoted() bool {
	return p.wide <= mostIndent && strings.HasPrefix(p.line[p.stand:], ">")
}

// behind is the place to which one comes over blanks, k columns behind the base at most.
func (p *position) behind(k int) int {
	at, _ := tab.Take(p.line, p.at, p.col, p.base+k-p.col, tabSize)
	return at
}

// take takes k columns.
func (p *position) take(k int) {
	p.base += k
	p.at, p.col = tab.Take(p.line, p.at, p.col, p.base-p.col, tabSize)
	p.look()
}

// quote goes into the quote whose mark stands there.
func (p *position) quote() {
	p.base += p.wide + 1
	p.at, p.col = p.stand+1, p.base
	p.look()
	if p.stand > p.at {
		p.take(1)
	}
}

// item goes into the item whose mark stands there, up to to, and tells how many columns it takes of each of its lines.
func (p *position) item(to int) int {
	mark := p.wide + to - p.stand
	p.at, p.col = to, p.base+mark
	p.look()
	gap := p.wide - mark
	if gap > mostGap || !p.stands() {
		gap = 1
	}
	p.take(mark + gap)
	return mark + gap
}
