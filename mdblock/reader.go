package mdblock

import (
	"indenture/api"
	"indenture/mdmark"
)

// reader reads a line. The state in it is the one at the line's beginning, and becomes the one behind it.
type reader struct {
	api.State
	position
	events []api.Event
	kept   int   // how many frames go on
	going  bool  // whether a list goes on that has no item yet
	flags  uint8 // of the item that it gets
}

// next is what comes behind one that was tried.
type next uint8

const (
	other next = iota // it does not stand there: another one is tried
	on                // it is read on behind it
	done              // that is all
)

// first tries one after the other, and is what comes behind the first that stands there.
func first(row ...func() next) next {
	for _, try := range row {
		if what := try(); what != other {
			return what
		}
	}
	return other
}

// read tells the line.
func (r *reader) read() {
	r.keep()
	if first(r.fenced, r.indented, r.running) == done {
		return
	}
	r.settle()
	if !r.stands() {
		r.parted()
		return
	}
	if r.Depth > 0 && !r.going && r.top().Flags&blank != 0 {
		r.top().Flags |= loose
	}
	r.joined()
	for r.stands() && first(r.code, r.quoted, r.head, r.fence, r.rule, r.listed, r.def, r.para) == on {
	}
}

// keep goes into the frames that go on.
func (r *reader) keep() {
	for r.kept < r.Depth && r.goesOn(r.Stack[r.kept]) {
		r.kept++
	}
}

// goesOn goes into the frame f, and tells its mark, if it goes on.
func (r *reader) goesOn(f api.Frame) bool {
	if f.Kind == api.MdQuote {
		if !r.isQuoted() {
			return false
		}
		r.leaf(api.MdMark, r.stand, r.stand+1)
		r.quote()
		return true
	}
	if !r.stands() {
		// None of these blanks is the item's: between fences they are told as they stand.
		return true
	}
	if r.wide < f.Col {
		return false
	}
	r.take(f.Col)
	return true
}

// settle closes what does not go on.
func (r *reader) settle() {
	// What closes at the line's beginning comes ahead of the marks.
	marks := r.events
	r.events = nil
	r.closeBlock()
	going := r.isNext()
	for r.Depth > r.kept {
		if going && r.Depth == r.kept+1 {
			r.dropItem()
		} else {
			r.drop()
		}
	}
	r.events = append(r.events, marks...)
}

// isNext tells whether the next item stands there of the list whose item is the first frame that does not go on.
func (r *reader) isNext() bool {
	if r.kept == r.Depth || r.wide > mostIndent {
		return false
	}
	if _, is := mdmark.Rule(r.line, r.stand); is {
		return false
	}
	// A quote's frame has no Mark.
	m, is := mdmark.Item(r.line, r.stand)
	return is && m.Char == r.Stack[r.kept].Mark
}

// parted says that a blank line came to all items.
func (r *reader) parted() {
	for i, f := range r.Stack[:r.Depth] {
		if f.Kind == api.MdItem {
			r.Stack[i].Flags |= blank
		}
	}
}

// joined says that none came to any.
func (r *reader) joined() {
	for i := range r.Depth {
		r.Stack[i].Flags &^= blank
	}
}

// top is the last frame, if there is one.
func (r *reader) top() *api.Frame {
	return &r.Stack[r.Depth-1]
}

// push puts a frame above the others.
func (r *reader) push(f api.Frame) {
	r.Stack[r.Depth] = f
	r.Depth++
}

// pop takes the last frame away.
func (r *reader) pop() api.Frame {
	f := *r.top()
	r.Depth--
	r.Stack[r.Depth] = api.Frame{}
	return f
}

// drop closes the last frame, an item's with its list.
func (r *reader) drop() {
	f := r.pop()
	r.close(0, 0)
	if f.Kind != api.MdItem {
		return
	}
	kind := uint8(0)
	if f.Flags&loose != 0 {
		kind = api.MdLoose
	}
	r.close(kind, 0)
}

// dropItem closes the last frame's item alone.
func (r *reader) dropItem() {
	f := r.pop()
	r.close(0, 0)
	r.going = true
	if f.Flags != 0 {
		// Items that a blank line parts make their list loose.
		r.flags = loose
	}
}

// closeBlock closes the block that is open.
func (r *reader) closeBlock() {
	if r.Mode != noBlock {
		r.leave(0, 0)
	}
}

// leave closes the block that is open at at, as one of the kind; its kind stays, if that is 0.
func (r *reader) leave(kind uint8, at int) {
	r.close(kind, at)
	r.Mode, r.Mark, r.Flags, r.Count = noBlock, 0, 0, 0
}

// open tells that a node of the kind begins at at.
func (r *reader) open(kind uint8, at int) {
	r.events = append(r.events, api.Event{Op: api.OpOpen, Kind: kind, At: at})
}

// close tells that what was opened last ends at at, as one of the kind; its kind stays, if that is 0.
func (r *reader) close(kind uint8, at int) {
	r.events = append(r.events, api.Event{Op: api.OpClose, Kind: kind, At: at})
}

// leaf tells a leaf of the kind.
func (r *reader) leaf(kind uint8, from, to int) {
	r.events = append(r.events, api.Event{Op: api.OpLeaf, Kind: kind, At: from, To: to})
}

// text tells text that may have spans.
func (r *reader) text(from, to int) {
	r.events = append(r.events, api.Event{Op: api.OpText, At: from, To: to})
}
