package mdlink

import (
	"strings"

	"indenture/mdcode"
	"indenture/mdlabel"
)

// stack is a row of things to whose end is put, and from whose end is taken.
type stack[T any] struct {
	items []T
}

// push puts x on top.
func (s *stack[T]) push(x T) {
	s.items = append(s.items, x)
}

// pop takes away what is on top; false, if nothing is.
func (s *stack[T]) pop() (T, bool) {
	last := len(s.items) - 1
	if last < 0 {
		var none T
		return none, false
	}
	x := s.items[last]
	s.items = s.items[:last]
	return x, true
}

// opener is what a link or an image may begin with.
type opener struct {
	from, open int // where it stands, and the place behind it
	image      bool
}

// reader reads the links of a part.
type reader struct {
	targets
	openers stack[opener]
	barred  int // ahead of which place the openers of links are barred
	known   []string
	set     map[string]struct{} // those that are known, as soon as one is asked for
	links   []Link
}

// step reads what stands at at, and tells from where it is read on.
func (r *reader) step(at int) int {
	rest := r.own[at:]
	if rest[0] == ' ' {
		// Neither blanks nor a break of them are more than passed over, be they ever so many.
		return r.skip(at)
	}
	if kind, n := mdcode.Read(rest, 0, len(rest)); kind != 0 || n > 1 {
		return at + n
	}
	switch {
	case strings.HasPrefix(rest, "!["):
		r.openers.push(opener{from: at, open: at + len("!["), image: true})
		return at + len("![")
	case rest[0] == '[':
		r.openers.push(opener{from: at, open: at + len("[")})
	case rest[0] == ']':
		return r.shut(at)
	}
	return at + 1
}

// shut takes the ] that stands at at, and tells from where it is read on.
func (r *reader) shut(at int) int {
	o, is := r.openers.pop()
	if !is || !o.image && o.from < r.barred {
		return at + 1
	}
	to, is := r.behind(o.open, at)
	if !is {
		return at + 1
	}
	r.links = append(r.links, Link{From: o.from, Open: o.open, Mid: at, To: to, Image: o.image})
	if !o.image {
		// No link lies within another one's text.
		r.barred = to
	}
	return to
}

// behind is the place behind the link or the image whose text goes from open to mid; false, if it is none.
func (r *reader) behind(open, mid int) (int, bool) {
	to := mid + len("]")
	if target, is := r.target(to); is {
		return target, true
	}
	if named, is := label(r.own, to); is {
		return named, r.isKnown(r.own[to+1 : named-1])
	}
	// Its own text is its label: that is read with its brackets.
	if own, is := label(r.own[:to], open-1); !is || own < to || !r.isKnown(r.own[open:mid]) {
		return 0, false
	}
	if strings.HasPrefix(r.own[to:], "[]") {
		to += len("[]")
	}
	return to, true
}

// isKnown tells whether the label is known.
func (r *reader) isKnown(label string) bool {
	if r.set == nil {
		r.set = make(map[string]struct{}, len(r.known))
		for _, name := range r.known {
			r.set[name] = struct{}{}
		}
	}
	_, is := r.set[mdlabel.Fold(label)]
	return is
}
