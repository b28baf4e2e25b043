package pytoken

import (
	"strings"

	"indenture/api"
)

// reader reads a line. Each of its methods that answer a bool takes what stands at the place, if that is its own, and tells whether it took something.
type reader struct {
	line string // what it has ahead of its end
	at   int
	out  Out
}

// openText takes what the line has of a text that is open.
func (r *reader) openText() bool {
	if r.out.Mark == 0 {
		return false
	}
	r.textFrom(r.at, r.out.Mark, api.PyPart)
	return true
}

// blank takes a blank, of which nothing is told.
func (r *reader) blank() bool {
	if strings.IndexByte(" \t\f\r", r.line[r.at]) < 0 {
		return false
	}
	r.at++
	return true
}

// comment takes all that is left.
func (r *reader) comment() bool {
	if r.line[r.at] != '#' {
		return false
	}
	r.leaf(api.PyComment, len(r.line))
	return true
}

// backslash takes a backslash, which joins the next line if it is the last byte.
func (r *reader) backslash() bool {
	if r.line[r.at] != '\\' {
		return false
	}
	kind := api.KindError
	if r.at == len(r.line)-1 {
		kind = api.PyJoin
	}
	r.leaf(kind, r.at+1)
	return true
}

// text takes a text that begins here.
func (r *reader) text() bool {
	ahead, mark := opening(r.line[r.at:])
	if mark == 0 {
		return false
	}
	r.textFrom(r.at+ahead, mark, api.PyString)
	return true
}

// name takes a name.
func (r *reader) name() bool {
	c := r.line[r.at]
	if !isNamed(c) || isDigit(c) {
		return false
	}
	to := r.at + 1
	for to < len(r.line) && isNamed(r.line[to]) {
		to++
	}
	r.leaf(api.PyName, to)
	return true
}

// number takes a number.
func (r *reader) number() bool {
	n := numeral(r.line[r.at:])
	if n == 0 {
		return false
	}
	r.leaf(api.PyNumber, r.at+n)
	return true
}

// operator takes an operator, and counts the brackets; one that closes none is an error.
func (r *reader) operator() bool {
	n := operates(r.line[r.at:])
	if n == 0 {
		return false
	}
	kind := api.PyOp
	switch r.line[r.at] {
	case '(', '[', '{':
		r.out.Depth = min(r.out.Depth+1, api.MaxText)
	case ')', ']', '}':
		if r.out.Depth == 0 {
			kind = api.KindError
		} else {
			r.out.Depth--
		}
	}
	r.leaf(kind, r.at+n)
	return true
}

// other takes one byte, whatever it is.
func (r *reader) other() bool {
	r.leaf(api.KindError, r.at+1)
	return true
}

// textFrom takes a text, of what is open with it, that is gone on with at from: a leaf of the kind whole, if its end is there.
func (r *reader) textFrom(from int, mark byte, whole uint8) {
	to, ends, joins := textEnd(r.line, from, quotes[mark])
	r.out.Mark = 0
	switch {
	case ends:
		r.leaf(whole, to)
	case joins || len(quotes[mark]) > 1:
		r.out.Mark = mark
		r.leaf(api.PyPart, to)
	default:
		r.leaf(api.KindError, to)
	}
}

// leaf tells a leaf up to to, and goes on there.
func (r *reader) leaf(kind uint8, to int) {
	r.out.Events = append(r.out.Events, api.Event{Op: api.OpLeaf, Kind: kind, At: r.at, To: to})
	switch kind {
	case api.PyJoin:
		r.out.Join = true
	case api.PyComment:
	default:
		r.out.Some = true
		r.out.Colon = kind == api.PyOp && r.line[r.at:to] == ":" && r.out.Depth == 0
	}
	r.at = to
}
