package yamlblock

import (
	"strings"

	"indenture/api"
	"indenture/yamlline"
)

// mayFollow tells whether the part may stand behind the one ahead of it.
func (r *reader) mayFollow() bool {
	switch r.ahead {
	case 0, api.YamlDash:
		return true
	case api.YamlKey:
		return r.part.Kind != api.YamlDash && r.part.Kind != api.YamlKey
	}
	return r.part.Kind == api.YamlComment
}

// mark takes the mark between two documents.
func (r *reader) mark() {
	r.dropAbove(-1)
	r.Flags = 0
	r.pass(r.part.To)
}

// dash takes a dash, with which an item begins.
func (r *reader) dash() {
	r.enter(api.YamlSeq, api.YamlItem, r.part.To)
}

// key takes a key, with which a pair begins.
func (r *reader) key() {
	r.enter(api.YamlMap, api.YamlPair, r.part.Colon+1)
}

// enter begins an entry with the part, behind which it is gone on at to: one more of the last frame, or the first one of a frame of the kind.
func (r *reader) enter(kind, entry uint8, to int) {
	// Just what a line begins with may stand at the column that is open: what is behind a dash stands deeper.
	switch {
	case r.isTop(kind):
		r.close(r.at)
	case r.mayBegin(kind):
		r.came()
		r.open(kind, r.at)
		r.push(kind)
	default:
		r.wrong()
		return
	}
	r.open(entry, r.at)
	r.top().Flags = awaits
	r.pass(to)
}

// mayBegin tells whether a frame of the kind may come above the last one. At the column of that a sequence may stand, too, which belongs to a key.
func (r *reader) mayBegin(kind uint8) bool {
	return r.isAwaited() && r.Depth < api.MaxStack && (kind == api.YamlSeq || r.at > r.column())
}

// head takes the sign of a block scalar.
func (r *reader) head() {
	if !r.isAwaited() {
		r.wrong()
		return
	}
	r.came()
	r.Mode = within
	if r.part.Count > 0 {
		r.Count = r.part.Count + max(r.column(), 0)
	}
	r.pass(r.part.To)
}

// plain takes a plain scalar: one that is awaited, or what goes on with one in a line of its own.
func (r *reader) plain() {
	if !r.isAwaited() && r.at > r.column() {
		r.pass(r.part.To)
		return
	}
	r.scalar()
}

// scalar takes a scalar that is awaited.
func (r *reader) scalar() {
	if !r.isAwaited() {
		r.wrong()
		return
	}
	r.came()
	r.pass(r.part.To)
}

// comment takes a comment.
func (r *reader) comment() {
	r.pass(r.part.To)
}

// wrong tells all that is left as an error.
func (r *reader) wrong() {
	r.leaf(api.KindError, r.at, len(strings.TrimRight(r.line, " \t")))
	r.at = len(r.line)
}

// pass tells the part as a leaf, and goes on with what stands from to on.
func (r *reader) pass(to int) {
	r.leaf(r.part.Kind, r.at, r.part.To)
	r.ahead, r.at = r.part.Kind, yamlline.Skip(r.line, to)
}
