package pylayout

import (
	"strings"

	"indenture/api"
	"indenture/pytoken"
	"indenture/tab"
)

// tabSize is how many columns lie between those to which tabs go.
const tabSize = 8

// reader reads a line. The state in it is the one at the line's beginning, and becomes the one behind it.
type reader struct {
	api.State
	line   string
	end    int // where the line's end begins
	at     int // where the indentation ends; 0 within a logical line, where none counts
	events []api.Event
}

// endOf is where the end of line begins; what stands behind its first LF plays no part.
func endOf(line string) int {
	if lf := strings.IndexByte(line, '\n'); lf >= 0 {
		line = line[:lf+1]
	}
	return tab.End(line)
}

// indent goes over the indentation, and answers its column.
func (r *reader) indent() int {
	at, col := tab.Indent(r.line, 0, 0, tabSize)
	r.at = at
	return col
}

// isEmpty tells whether nothing but a comment stands behind the indentation.
func (r *reader) isEmpty() bool {
	return r.at == r.end || r.line[r.at] == '#'
}

// comment tells the comment of an empty line, if it has one.
func (r *reader) comment() {
	if r.at < r.end {
		r.leaf(api.PyComment, r.at, r.end)
	}
}

// lay opens and closes blocks for a line that stands at the column col, tells it if it is wrong there, and opens its node.
func (r *reader) lay(col int) {
	if !r.settle(col) {
		r.leaf(api.KindError, 0, r.at)
	}
	r.open(api.PySimple, r.at)
}

// settle opens and closes blocks for a line that stands at the column col, and tells whether it may stand there.
func (r *reader) settle(col int) bool {
	head := r.Flags == headAhead
	if col > r.column() {
		if !head || r.Depth == api.MaxStack {
			return false
		}
		r.openBlock(col)
		return true
	}
	for r.column() > col {
		r.closeBlock()
	}
	return !head && r.column() == col
}

// read tells what stands behind the indentation, and ends the logical line, unless it goes on in the next line.
func (r *reader) read() {
	out := pytoken.Scan(r.line, r.at, r.Mark, r.Count)
	r.events = append(r.events, out.Events...)
	// Of a line that tells nothing the colon of those ahead is still the last that was read.
	colon := out.Colon || !out.Some && r.Flags == colonLast
	r.Mark, r.Count = out.Mark, out.Depth
	if out.Join || out.Mark != 0 || out.Depth > 0 {
		r.goOn(colon)
	} else {
		r.finish(colon)
	}
}

// goOn leaves the logical line open for the next line.
func (r *reader) goOn(colon bool) {
	r.Mode, r.Flags = within, 0
	if colon {
		r.Flags = colonLast
	}
}

// finish ends the logical line, which is a head, if it ends in a colon.
func (r *reader) finish(colon bool) {
	r.Mode, r.Flags = between, 0
	kind := api.PySimple
	if colon {
		r.Flags, kind = headAhead, api.PyHead
	}
	r.close(kind, r.end)
}

// column is the one that is open.
func (r *reader) column() int {
	if r.Depth == 0 {
		return 0
	}
	return r.Stack[r.Depth-1].Col
}

// openBlock opens a block of the column col.
func (r *reader) openBlock(col int) {
	r.open(api.PyBlock, 0)
	r.Stack[r.Depth] = api.Frame{Kind: api.PyBlock, Col: col}
	r.Depth++
}

// closeBlock closes the last block.
func (r *reader) closeBlock() {
	r.close(0, 0)
	r.Depth--
	r.Stack[r.Depth] = api.Frame{}
}

// open tells that a node of the kind begins at at.
func (r *reader) open(kind uint8, at int) {
	r.events = append(r.events, api.Event{Op: api.OpOpen, Kind: kind, At: at})
}

// close tells that what was opened last ends at at, as one of the kind; its kind stays, if that is 0.
func (r *reader) close(kind uint8, at int) {
	r.events = append(r.events, api.Event{Op: api.OpClose, Kind: kind, At: at})
}

// leaf tells a leaf of the kind.
func (r *reader) leaf(kind uint8, from, to int) {
	r.events = append(r.events, api.Event{Op: api.OpLeaf, Kind: kind, At: from, To: to})
}
