package yamlblock

import (
	"strings"

	"indenture/api"
	"indenture/yamlline"
)

// reader reads a line. The state in it is the one at the line's beginning, and becomes the one behind it.
type reader struct {
	api.State
	events []api.Event
	line   string        // what it has ahead of its end
	at     int           // where what is told now stands, which is its column, too
	part   yamlline.Part // what stands there
	ahead  uint8         // the kind of the part ahead of it in the line; 0, if it is the first
}

// read tells a line that is not empty.
func (r *reader) read() {
	r.at = len(r.line) - len(strings.TrimLeft(r.line, " "))
	if r.Mode == within {
		if r.isOfScalar() {
			r.leaf(api.YamlLine, r.Count, len(r.line))
			return
		}
		r.close(0)
		r.Mode, r.Count = between, 0
	}
	r.settle()
	r.tell()
	if r.Mode == within {
		r.open(api.YamlBlock, len(r.line))
	}
}

// isOfScalar tells whether the line is one of the block scalar that is open; the first one says how deep they stand, if the sign did not.
func (r *reader) isOfScalar() bool {
	if r.Count > 0 {
		return r.at >= r.Count
	}
	if r.at <= r.column() {
		return false
	}
	r.Count = r.at
	return true
}

// settle drops the frames that end ahead of what the line begins with.
func (r *reader) settle() {
	switch kind := yamlline.Read(r.line, r.at).Kind; kind {
	case 0, api.YamlComment:
		// Whatever the column of a tab or a comment is, it says nothing of what is open.
	default:
		r.dropAbove(r.at)
		// Of two frames of one column the last is a sequence that belongs to a key.
		if kind != api.YamlDash && r.Depth > 1 && r.Stack[r.Depth-2].Col == r.at {
			r.drop()
		}
	}
}

// tell tells part by part what the line has.
func (r *reader) tell() {
	does := map[uint8]func(){
		api.YamlMark:    r.mark,
		api.YamlDash:    r.dash,
		api.YamlKey:     r.key,
		api.YamlHead:    r.head,
		api.YamlPlain:   r.plain,
		api.YamlQuoted:  r.scalar,
		api.YamlComment: r.comment,
	}
	for r.at < len(r.line) {
		r.part = yamlline.Read(r.line, r.at)
		do, is := does[r.part.Kind]
		if !is || !r.mayFollow() {
			do = r.wrong
		}
		do()
	}
}

// dropAbove drops all frames whose columns are above col.
func (r *reader) dropAbove(col int) {
	for r.column() > col {
		r.drop()
	}
}

// drop drops the last frame.
func (r *reader) drop() {
	r.close(0)
	r.close(0)
	r.Depth--
	r.Stack[r.Depth] = api.Frame{}
	if r.Depth == 0 {
		r.Flags = filled
	}
}

// push puts a frame of the kind and of this column above the others.
func (r *reader) push(kind uint8) {
	r.Stack[r.Depth] = api.Frame{Kind: kind, Col: r.at}
	r.Depth++
	// What stands in the document is told by the frames from now on.
	r.Flags = 0
}

// top is the last frame, if there is one.
func (r *reader) top() *api.Frame {
	return &r.Stack[r.Depth-1]
}

// column is the one that is open.
func (r *reader) column() int {
	if r.Depth == 0 {
		return -1
	}
	return r.top().Col
}

// isTop tells whether the last frame is of the kind, and of this column.
func (r *reader) isTop(kind uint8) bool {
	return r.Depth > 0 && r.top().Kind == kind && r.top().Col == r.at
}

// isAwaited tells whether what belongs to the last entry, or to the document, may still come.
func (r *reader) isAwaited() bool {
	if r.Depth == 0 {
		return r.Flags != filled
	}
	return r.top().Flags == awaits
}

// came says that what was awaited is here.
func (r *reader) came() {
	if r.Depth == 0 {
		r.Flags = filled
	} else {
		r.top().Flags = 0
	}
}

// open tells that a node of the kind begins at at.
func (r *reader) open(kind uint8, at int) {
	r.events = append(r.events, api.Event{Op: api.OpOpen, Kind: kind, At: at})
}

// close tells that what was opened last ends at at.
func (r *reader) close(at int) {
	r.events = append(r.events, api.Event{Op: api.OpClose, At: at})
}

// leaf tells a leaf of the kind.
func (r *reader) leaf(kind uint8, from, to int) {
	r.events = append(r.events, api.Event{Op: api.OpLeaf, Kind: kind, At: from, To: to})
}
